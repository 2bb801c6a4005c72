/- The reference's land: the waiting writes that a flush or a crash puts on the blocks. Condition: the rows and the writes lie in memory. -/
import Derived.Test.YtmgbmnbjionapaaDpA
namespace Go.Proofs.Ytmgbmnbjionapaa
open Go.RowKit

def NT (_ : Nat) : Prop := True
/-- Waiting writes in memory. -/
structure WtAt (w : World) (A : Option Addr) (wts : List (Nat × List Nat)) : Prop where
  at' : ∀ k (hk : k < wts.length), ∃ b off Ad c, A = some ⟨b, off, none⟩ ∧ b < w.heap.size ∧ w.cell? ⟨b, off + k * 2, none⟩ = some (.int .i64 ((wts[k]).1 : Int)) ∧ w.cell? ⟨b, off + k * 2 + 1, none⟩ = some (.slice Ad 256 c) ∧ 256 ≤ c ∧ Seg w Ad (u8s (wts[k]).2)
theorem WtAt.bel {w w' : World} {A : Option Addr} {wts : List (Nat × List Nat)} (h : WtAt w A wts) (k : Below w.heap.size w w') : WtAt w' A wts := ⟨fun i hi => by
  obtain ⟨b, off, Ad, c, h1, h2, h3, h4, h5, h6⟩ := h.at' i hi
  exact ⟨b, off, Ad, c, h1, Nat.lt_of_lt_of_le h2 k.size, (k.cell (p := ⟨b, off + i * 2, none⟩) h2).trans h3, (k.cell (p := ⟨b, off + i * 2 + 1, none⟩) h2).trans h4, h5, h6.bel k⟩⟩
theorem RwN.pick {N : Nat → Prop} {w : World} {base g n c i : Nat} {ts : List (List Nat)} (h : RwN N w base (.slice (some ⟨g, 0, none⟩) n c) n ts) (hi : i < ts.length) (hl : (ts[i]).length = 256) : ∃ Bp cp, w.cell? ⟨g, i, none⟩ = some (.slice Bp 256 cp) ∧ 256 ≤ cp ∧ SegF w (.slice (some ⟨g, 0, none⟩) n c) Bp (u8s (ts[i])) := by
  obtain ⟨_, xs, h1, h2, h3⟩ := h
  obtain ⟨B, c2, a1, a2⟩ := h2 i hi
  have hc := h1.cells (g := g) rfl i _ a1
  rw [addr_add, hl] at hc
  obtain ⟨b, off, q1, _⟩ := a2 (fun e => by
    have hz : (u8s (ts[i])).length = 0 := by rw [e]; rfl
    rw [u8s_length] at hz; omega)
  subst q1
  have := (h3 i _ _ _ a1).2
  exact ⟨_, c2, hc, by omega, a2⟩
theorem RwN.store {N : Nat → Prop} {w : World} {base g n c i : Nat} {ts : List (List Nat)} (h : RwN N w base (.slice (some ⟨g, 0, none⟩) n c) n ts) : w.frozen? ⟨g, i, none⟩ = false ∧ base ≤ g ∧ g < w.heap.size ∧ ∃ ys, w.ownsRow base 26 1 (.slice (some ⟨g, 0, none⟩) n c) n ys := by
  have h1 := (Classical.choose_spec h.2).1
  refine ⟨?_, (h1.lt g rfl).1, (h1.lt g rfl).2, _, h1⟩
  rcases h1.2 with ⟨hv, _⟩ | ⟨g', cap', cur, hv, _, hg, _⟩
  · cases hv
  · injection hv with e1
    injection e1 with e1
    injection e1 with e1
    subst e1
    exact Bk.frozen (show Bk w g 26 cur from hg) i
theorem landR_256 (f : Nat → Nat) (hf : ∀ i, f i ≤ 8) (rows : List (List Nat)) (wts : List (Nat × List Nat)) (h : ∀ x ∈ rows, x.length = 256) (hw : ∀ x ∈ wts, x.1 < rows.length ∧ x.2.length = 256) : ∀ k, k ≤ wts.length → ∀ x ∈ landR f rows wts k, x.length = 256
  | 0, _ => h
  | k + 1, hk => by
    have ih := landR_256 f hf rows wts h hw k (by omega)
    have hm : wts.getD k (0, []) ∈ wts := by
      rw [List.getD_eq_getElem?_getD, List.getElem?_eq_getElem (by omega)]
      exact List.getElem_mem _
    obtain ⟨h1, h2⟩ := hw _ hm
    intro x hx
    rcases List.mem_or_eq_of_mem_set hx with hx | rfl
    · exact ih x hx
    · refine putL_length _ _ _ ?_ h2 (by have := hf k; omega)
      have hl := landR_length f rows wts k
      rw [List.getD_eq_getElem?_getD, List.getElem?_eq_getElem (by rw [hl]; exact h1)]
      exact ih _ (List.getElem_mem _)
def ldF (N : Nat → Prop) (B gR n cap xb m : Nat) (Ad : Option Addr) (c1 nn : Nat) (nv : Int) (L old : List Nat) (ts : List (List Nat)) (j : Nat) (v _u : Value) (w : World) : Prop := match j with
  | 0 => v = .slice (some ⟨gR, 0, none⟩) n cap
  | 1 => v = .pointer (some ⟨xb, 0, none⟩)
  | 2 => v = .int .i64 (m : Int)
  | 3 => v = .slice (some ⟨gR, 0, none⟩) n cap
  | 4 => v = .pointer (some ⟨xb, 0, none⟩)
  | 5 => v = .int .i64 (m : Int)
  | 6 => v = .pointer (some ⟨gR, m, none⟩)
  | 7 => ∃ Bp cp, v = .slice Bp 256 cp ∧ 256 ≤ cp ∧ SegF w (.slice (some ⟨gR, 0, none⟩) n cap) Bp (u8s old)
  | 8 => v = .pointer (some ⟨xb, 1, none⟩)
  | 9 => v = .slice Ad 256 c1
  | 10 => v = .int .i64 nv
  | 11 => ∃ A' c', v = .slice A' 256 c' ∧ 256 ≤ c' ∧ (∀ a, A' = some a → B ≤ a.block) ∧ SegF w (.slice (some ⟨gR, 0, none⟩) n cap) A' (u8s (putL nn old L))
  | 12 => v = .pointer (some ⟨gR, m, none⟩)
  | 13 => RwN N w B (.slice (some ⟨gR, 0, none⟩) n cap) n (ts.set m (putL nn old L))
  | _ => True
def ldH (N : Nat → Prop) (B gR n cap : Nat) (ts : List (List Nat)) (m : Nat) (w : World) : Prop := match m with
  | 13 => RwN N w B (.slice (some ⟨gR, 0, none⟩) n cap) n ts
  | _ => True
theorem ldF_bel {N : Nat → Prop} {B gR n cap xb m : Nat} {Ad : Option Addr} {c1 nn : Nat} {nv : Int} {L old : List Nat} {ts : List (List Nat)} {w w' : World} (hb : Below w.heap.size w w') : ∀ j u u', ldF N B gR n cap xb m Ad c1 nn nv L old ts j u u' w → ldF N B gR n cap xb m Ad c1 nn nv L old ts j u u' w' := by
  intro j u u' h
  unfold ldF at *
  split at h <;> first | exact h | exact h.bel hb | skip
  · obtain ⟨A', c', hv, h0, h1⟩ := h
    exact ⟨A', c', hv, h0, h1.bel hb⟩
  · obtain ⟨A', c', hv, h0, h9, h1⟩ := h
    exact ⟨A', c', hv, h0, h9, h1.bel hb⟩
theorem ldF_set {N : Nat → Prop} {B gR n cap xb m i : Nat} {Ad : Option Addr} {c1 nn : Nat} {nv : Int} {L old : List Nat} {ts : List (List Nat)} {w : World} {u0 : Value} : ∀ j, j ≠ 13 → ∀ u u', ldF N B gR n cap xb m Ad c1 nn nv L old ts j u u' w → ldF N B gR n cap xb m Ad c1 nn nv L old ts j u u' (w.setCell ⟨gR, i, none⟩ u0) := by
  intro j h8 u u' h
  unfold ldF at *
  split at h <;> first | exact h | exact absurd rfl h8 | skip
  · obtain ⟨A', c', hv, h0, h1⟩ := h
    exact ⟨A', c', hv, h0, h1.far⟩
  · obtain ⟨A', c', hv, h0, h9, h1⟩ := h
    exact ⟨A', c', hv, h0, h9, h1.far⟩
theorem ldH_bel {N : Nat → Prop} {B gR n cap : Nat} {ts : List (List Nat)} {w w' : World} (hb : Below w.heap.size w w') : ∀ m, ldH N B gR n cap ts m w → ldH N B gR n cap ts m w' := by
  intro m h
  unfold ldH at *
  split at h <;> first | exact h | exact h.bel hb
theorem own_shape2 {w : World} {base : Nat} {e : TypeId} {v : Value} {n : Nat} {xs : List Value} (h : w.ownsRow base e 1 v n xs) (hn : 0 < n) : ∃ g c, v = .slice (some ⟨g, 0, none⟩) n c ∧ base ≤ g ∧ g < w.heap.size := h.form hn
set_option maxRecDepth 100000 in
set_option maxHeartbeats 8000000 in
theorem rland_any (N : Nat → Prop) (Ab Aw : Option Addr) (T cb m cw : Nat) (left : Int) (rows : List (List Nat)) (wts : List (Nat × List Nat)) (keep : Nat) (tear sectors : Int) (w : World) (hT : T = rows.length) (hT2 : T ≤ 2048) (hR : RsN w N Ab rows) (h256 : ∀ x ∈ rows, x.length = 256) (hm : m = wts.length) (hm2 : m ≤ 64) (hB : WtAt w Aw wts) (hok : ∀ x ∈ wts, x.1 < T ∧ x.2.length = 256) (hkeep : keep < 18446744073709551616) (hN : ∀ g, w.heap.size + 2 ≤ g → N g) :
    Calls Try.prog 48 #[.agg #[.slice Ab T cb, .slice Aw m cw, .int .i64 left], .int .u64 (keep : Int), .int .i64 tear, .int .i64 sectors] w fun e w' => ∃ A' c', e = .returned (.agg #[.slice A' T c', .slice none 0 0, .int .i64 left]) ∧ RsN w' N A' (landR (crashS keep tear sectors) rows wts m) ∧ Below w.heap.size w w' := by
  obtain ⟨i0, hi0, hz0, hz1, hz2⟩ := info_parts info_row
  obtain ⟨xs, hxl, hxs, hx1, hxr⟩ := rows_cells hR (fun x hx h => by have := h256 x hx; rw [h] at this; cases this)
  obtain ⟨C4, hC4⟩ : ∃ C4 : Array Value, C4 = #[.slice Ab T cb, .slice Aw m cw, .int .i64 left] := ⟨_, rfl⟩
  obtain ⟨w1, hw1⟩ : ∃ w1, w1 = w.alloc (.cells C4 32) := ⟨_, rfl⟩
  have hs1 : w1.heap.size = w.heap.size + 1 := by rw [hw1]; simp
  obtain ⟨w2, hw2⟩ : ∃ w2, w2 = w1.alloc (.cells ResC 32) := ⟨_, rfl⟩
  have X4 : Bk w2 w.heap.size 32 C4 := by rw [hw2, hw1]; exact (Bk.new w _ _).alloc _
  have X8 : Bk w2 (w.heap.size + 1) 32 ResC := by rw [hw2, ← hs1]; exact Bk.new w1 _ _
  have B2 : Below w.heap.size w w2 := by rw [hw2, hw1]; exact ((Below.refl _ _).alloc (Nat.le_refl _) _).alloc (by simp) _
  have x0 := X4.cell 0
  have x1 := X4.cell 1
  simp only [hC4, List.getElem?_toArray, List.getElem?_cons_zero, List.getElem?_cons_succ] at x0 x1
  have x0b : (w2.alloc (.cells #[] 26)).cell? ⟨w.heap.size, 0, none⟩ = some (.slice Ab T cb) := ((Bk.alloc X4 _).cell 0).trans (by rw [hC4]; rfl)
  have HX4 := Lib.hid X4
  have HX8 := Lib.hid X8
  have HB2 := Lib.hid B2
  have HC4 := Lib.hid hC4
  have HWW := Lib.hid (show (w.alloc (.cells #[.slice Ab T cb, .slice Aw m cw, .int .i64 left] 32)).alloc (.cells #[.slice none 0 0, .slice none 0 0, .int .i64 0] 32) = w2 by rw [hw2, hw1, hC4]; rfl)
  have HTR := Lib.hid hT
  have HM := Lib.hid hm
  have HWT := Lib.hid (hB.bel B2)
  have HOK := Lib.hid hok
  have H256 := Lib.hid h256
  have HXS := Lib.hid (hxs.bel B2)
  have HX1 := Lib.hid hx1
  have HXR := Lib.hid hxr
  have HXL := Lib.hid (show T = xs.length by omega)
  have HKP := Lib.hid hkeep
  have hs2 : w2.heap.size = w.heap.size + 2 := by rw [hw2]; simp [hs1]
  have HFRE := Lib.hid (show ∀ g, w2.heap.size ≤ g → N g from fun g hg => hN g (by omega))
  clear hT hm hB hok h256 hxs hx1 hxr hxl hR hkeep hN hw1 hw2 hs1 hs2 X4 X8 B2 hC4
  go_enter Try.func48, Try.ntmps48
  go_upto_region 1 with fail
  rw [HWW.out]
  go_wp2_with (first
    | (at_builtin; refine wpList_append_seg _ rfl _ _ _ rfl w2.heap.size 26 i0 _ 24 Try.underlying24 hi0 hz0 hz1 hz2 rfl _ 0 _ rfl (World.ownsRow_lit w2 #[] 0 (by omega) (by decide) rfl) Ab T cb xs rfl HXL.out (HXS.out.bel ((Below.refl _ _).alloc (Nat.le_refl _) _)) HX1.out (by simp only [maxLen]; omega) (by omega) (by simp) ?_; intro v3 w3 hown3 hb3; simp only [Nat.zero_add, List.nil_append] at hown3; obtain ⟨Av, cv, rfl, hcv, _⟩ := own_shape hown3; have HOW := Lib.hid hown3; have HB23 := Lib.hid (((Below.refl w2.heap.size w2).alloc (Nat.le_refl _) (.cells #[] 26)).trans hb3); have z1 := ((((Below.refl w2.heap.size w2).alloc (Nat.le_refl _) (.cells #[] 26)).trans hb3).cell (p := ⟨w.heap.size, 1, none⟩) HX4.out.lt).trans x1; clear hown3 hb3))
  have HR0 := Lib.hid (show RwN N w3 w2.heap.size (.slice Av T cv) T (landR (crashS keep tear sectors) rows wts 0) from ⟨HTR.out, xs, HOW.out, (fun i hi => by
    obtain ⟨B, c, a1, a2, _⟩ := HXR.out i hi
    exact ⟨B, c, a1, SegF.low (a2.bel HB2.out) HB23.out HOW.out (Nat.le_refl _)⟩), fun i a n2 c2 hi => by
    have hil : i < rows.length := by
      have := (List.getElem?_eq_some_iff.1 hi).1
      rw [← HTR.out, HXL.out]; exact this
    obtain ⟨B, c, a1, _, a3⟩ := HXR.out i hil
    rw [hi] at a1
    injection a1 with a1
    injection a1 with a1 q1 q2
    subst q1
    subst q2
    exact a3 a a1.symm⟩)
  clear x0 x0b
  go_wp2_with fail
  go_loopw [20] (fun i wr => ∃ k : Nat, k ≤ m ∧ i = .int .i64 k ∧ RwN N wr w2.heap.size (.slice Av T cv) T (landR (crashS keep tear sectors) rows wts k) ∧ Below w2.heap.size w2 wr) (fun i _ => m - (intOf i).toNat)
  case atStart => exact ⟨0, by omega, rfl, HR0.out, HB23.out⟩
  case round =>
    obtain ⟨k, hk, rfl, hR, hb⟩ := hrel
    by_cases hkn : k < m
    · have hkl : k < wts.length := by rw [← HM.out]; exact hkn
      have hkI : (k : Int) < (m : Int) := by omega
      have hk0 : (0 : Int) ≤ (k : Int) := by omega
      obtain ⟨b1, off, Ad, c1, rfl, hb1', c0w, c1w, hc1, hsd⟩ := HWT.out.at' k hkl
      have c0 := (hb.cell (p := ⟨b1, off + k * 2, none⟩) hb1').trans c0w
      have c1' := (hb.cell (p := ⟨b1, off + k * 2 + 1, none⟩) hb1').trans c1w
      obtain ⟨hi1, hi2⟩ := HOK.out _ (List.getElem_mem hkl)
      obtain ⟨mm, L, hml⟩ : ∃ mm L, wts[k] = (mm, L) := ⟨_, _, rfl⟩
      have hgd : wts.getD k (0, []) = (mm, L) := by rw [List.getD_eq_getElem?_getD, List.getElem?_eq_getElem hkl, hml]; rfl
      rw [hml] at c0 hsd hi1 hi2
      have hi1 : mm < T := hi1
      have hi2 : L.length = 256 := hi2
      obtain ⟨ts, hts⟩ : ∃ ts, ts = landR (crashS keep tear sectors) rows wts k := ⟨_, rfl⟩
      have htl : ts.length = T := by rw [hts, landR_length]; exact HTR.out.symm
      have ht256 : ∀ x ∈ ts, x.length = 256 := by rw [hts]; exact landR_256 _ (crashS_le _ _ _) rows wts H256.out (by rw [← HTR.out]; exact HOK.out) k (by omega)
      obtain ⟨old, hold⟩ : ∃ old, old = ts.getD mm [] := ⟨_, rfl⟩
      have hold' : ts[mm]? = some old := by
        rw [hold, List.getD_eq_getElem?_getD, List.getElem?_eq_getElem (by omega)]; rfl
      have HT := Lib.hid (show landR (crashS keep tear sectors) rows wts (k + 1) = ts.set mm (putL (crashS keep tear sectors k * 32) old L) by
        show (landR _ rows wts k).set _ _ = _
        rw [hgd, ← hts, hold])
      rw [← hts] at hR
      have hmI : (mm : Int) < (T : Int) := by omega
      have hm0 : (0 : Int) ≤ (mm : Int) := by omega
      obtain ⟨gR, cap, hv, _, hlt⟩ := (hR.2.choose_spec.1).form (by omega)
      injection hv with hv1 _ hv3
      subst hv1
      subst hv3
      obtain ⟨w4, hw4⟩ : ∃ w4, w4 = wr.alloc (.cells #[.int .i64 (mm : Int), .slice Ad 256 c1] 76) := ⟨_, rfl⟩
      have B4 : Below wr.heap.size wr w4 := by rw [hw4]; exact (Below.refl _ _).alloc (Nat.le_refl _) _
      have X4 : Bk w4 wr.heap.size 76 #[.int .i64 (mm : Int), .slice Ad 256 c1] := by rw [hw4]; exact Bk.new wr _ _
      have G0 := Lib.hid (show AfG w2 wr.heap.size #[.int .i64 (mm : Int), .slice Ad 256 c1] w4.drew from ⟨(below_step hb B4).drew, X4⟩)
      have H0 := Lib.hid (show ∀ m, m < 14 → ldH N w2.heap.size gR T cv ts m w4.drew from fun m _ => by
        unfold ldH
        split
        · exact (hR.bel B4).bel (Below.refl _ _).drew
        · trivial)
      have HSD := Lib.hid (show Seg w2 Ad (u8s L) from hsd)
      have HW4 := Lib.hid hw4
      have HTL := Lib.hid htl
      have HT256 := Lib.hid ht256
      have HOLD := Lib.hid hold'
      have HO256 := Lib.hid (show old.length = 256 from ht256 old (List.mem_of_getElem? hold'))
      have HL256 := Lib.hid hi2
      obtain ⟨xb, hxb⟩ : ∃ xb, xb = wr.heap.size := ⟨_, rfl⟩
      have HXB := Lib.hid hxb
      rw [← hxb] at G0
      have hbit := keep_bit keep k HKP.out
      clear hR hb c0w c1w hsd hi2 hml hgd hw4 B4 X4 hts hxb htl ht256 hold hold'
      go_upto_region 5 with fail
      rw [← HW4.out, ← HXB.out]
      by_cases hkb : keep.testBit k = true
      · rw [hkb] at hbit
        by_cases hte : (k : Int) = tear
        · have hteb : ((k : Int) == tear) = true := by simpa using hte
          clear hte
          by_cases hse : 0 < sectors
          · by_cases h8 : 8 < sectors
            · have HCS := Lib.hid (show crashS keep tear sectors k * 32 = 256 by unfold crashS; rw [if_pos hkb])
              go_wp2_with fail
              clear hbit
              refine wp_region_late [some 41, some 42, some 43, some 44, some 45, some 46, some 47, some 48, some 49, some 50, some 51, some 52, some 53, none] (fun _ => 0) (ldF N w2.heap.size gR T cv xb mm Ad c1 256 256 L old ts) (AfG w2 xb #[.int .i64 (mm : Int), .slice Ad 256 c1]) (ldH N w2.heap.size gR T cv ts) (by kernel_rfl) G0.out H0.out rfl (by kernel_rfl) (by kernel_rfl) (by kernel_rfl) (by kernel_rfl) (fun T hT => ?_)
              simp only [List.filterMap_cons, List.filterMap_nil, id, putsS, Act.put, List.setIfInBounds_toArray, List.set_cons_zero, List.set_cons_succ] at hT
              subst hT
              refine ⟨⟨?_, ?_, ?_, ?_, ?_, ?_, ?_, ?_, ?_, ?_, ?_, ?_, ?_, ?_, trivial⟩, ?_⟩
              · -- 0: Op.move t9
                intro f w1 hG hO hL hF K hK
                clear hF hO hL
                dsimp only at hK ⊢
                go_simp
                exact hK.out _ _ hG rfl (fun _ _ _ h => h) (fun _ _ h => h)
              · -- 1: Op.fieldAddr 76 t11 0
                intro f w1 hG hO hL hF K hK
                clear hF hO hL
                dsimp only at hK ⊢
                go_simp
                exact hK.out _ _ hG rfl (fun _ _ _ h => h) (fun _ _ h => h)
              · -- 2: Op.load 3 t42
                intro f w1 hG hO hL hF K hK
                have d1 : (ldF N w2.heap.size gR T cv xb mm Ad c1 256 256 L old ts) 1 (f 42) (f 0) w1 := hF 1 (by kernel_rfl)
                clear hF hO hL
                dsimp only at hK ⊢
                generalize hf42 : f 42 = v42 at *
                subst d1
                have y := hG.bx.cell 0
                simp only [List.getElem?_toArray, List.getElem?_cons_zero] at y
                go_simp
                exact hK.out _ _ hG rfl (fun _ _ _ h => h) (fun _ _ h => h)
              · -- 3: Op.move t9
                intro f w1 hG hO hL hF K hK
                clear hF hO hL
                dsimp only at hK ⊢
                go_simp
                exact hK.out _ _ hG rfl (fun _ _ _ h => h) (fun _ _ h => h)
              · -- 4: Op.fieldAddr 76 t11 0
                intro f w1 hG hO hL hF K hK
                clear hF hO hL
                dsimp only at hK ⊢
                go_simp
                exact hK.out _ _ hG rfl (fun _ _ _ h => h) (fun _ _ h => h)
              · -- 5: Op.load 3 t45
                intro f w1 hG hO hL hF K hK
                have d4 : (ldF N w2.heap.size gR T cv xb mm Ad c1 256 256 L old ts) 4 (f 45) (f 0) w1 := hF 4 (by kernel_rfl)
                clear hF hO hL
                dsimp only at hK ⊢
                generalize hf45 : f 45 = v45 at *
                subst d4
                have y := hG.bx.cell 0
                simp only [List.getElem?_toArray, List.getElem?_cons_zero] at y
                go_simp
                exact hK.out _ _ hG rfl (fun _ _ _ h => h) (fun _ _ h => h)
              · -- 6: Op.indexAddr 24 t44 t46
                intro f w1 hG hO hL hF K hK
                have d3 : (ldF N w2.heap.size gR T cv xb mm Ad c1 256 256 L old ts) 3 (f 44) (f 0) w1 := hF 3 (by kernel_rfl)
                have d5 : (ldF N w2.heap.size gR T cv xb mm Ad c1 256 256 L old ts) 5 (f 46) (f 0) w1 := hF 5 (by kernel_rfl)
                clear hF hO hL
                dsimp only at hK ⊢
                generalize hf44 : f 44 = v44 at *
                generalize hf46 : f 46 = v46 at *
                subst d3 d5
                go_simp
                exact hK.out _ _ hG rfl (fun _ _ _ h => h) (fun _ _ h => h)
              · -- 7: Op.load 26 t47
                intro f w1 hG hO hL hF K hK
                have l13 : (ldH N w2.heap.size gR T cv ts) 13 w1 := hL 13 (Nat.le_of_ble_eq_true (by kernel_rfl)) (by kernel_rfl)
                have d6 : (ldF N w2.heap.size gR T cv xb mm Ad c1 256 256 L old ts) 6 (f 47) (f 0) w1 := hF 6 (by kernel_rfl)
                clear hF hO hL
                dsimp only at hK ⊢
                generalize hf47 : f 47 = v47 at *
                subst d6
                have l13' : RwN N w1 w2.heap.size (.slice (some ⟨gR, 0, none⟩) T cv) T ts := l13
                have hmt : mm < ts.length := by rw [HTL.out]; exact hi1
                have hto : ts[mm] = old := by have h := HOLD.out; rw [List.getElem?_eq_getElem hmt] at h; exact Option.some.inj h
                obtain ⟨Bp, cp, y, hcp, hsp⟩ := l13'.pick hmt (HT256.out _ (List.getElem_mem hmt))
                rw [hto] at hsp
                have HS := Lib.hid hsp
                clear l13 l13' hmt hto hsp
                go_simp
                exact hK.out _ _ hG ⟨Bp, cp, rfl, hcp, HS.out⟩ (fun _ _ _ h => h) (fun _ _ h => h)
              · -- 8: Op.fieldAddr 76 t11 1
                intro f w1 hG hO hL hF K hK
                clear hF hO hL
                dsimp only at hK ⊢
                go_simp
                exact hK.out _ _ hG rfl (fun _ _ _ h => h) (fun _ _ h => h)
              · -- 9: Op.load 26 t49
                intro f w1 hG hO hL hF K hK
                have d8 : (ldF N w2.heap.size gR T cv xb mm Ad c1 256 256 L old ts) 8 (f 49) (f 0) w1 := hF 8 (by kernel_rfl)
                clear hF hO hL
                dsimp only at hK ⊢
                generalize hf49 : f 49 = v49 at *
                subst d8
                have y := hG.bx.cell 1
                simp only [List.getElem?_toArray, List.getElem?_cons_zero, List.getElem?_cons_succ] at y
                go_simp
                exact hK.out _ _ hG rfl (fun _ _ _ h => h) (fun _ _ h => h)
              · -- 10: Op.move t12
                intro f w1 hG hO hL hF K hK
                clear hF hO hL
                dsimp only at hK ⊢
                go_simp
                exact hK.out _ _ hG rfl (fun _ _ _ h => h) (fun _ _ h => h)
              · -- 11: Op.call ( value (Operand.func 70), args := #[t48, t50, t51], argTypes := #[26, 2
                intro f w1 hG hO hL hF K hK
                have l13 : (ldH N w2.heap.size gR T cv ts) 13 w1 := hL 13 (Nat.le_of_ble_eq_true (by kernel_rfl)) (by kernel_rfl)
                have d7 : (ldF N w2.heap.size gR T cv xb mm Ad c1 256 256 L old ts) 7 (f 48) (f 0) w1 := hF 7 (by kernel_rfl)
                have d9 : (ldF N w2.heap.size gR T cv xb mm Ad c1 256 256 L old ts) 9 (f 50) (f 0) w1 := hF 9 (by kernel_rfl)
                have d10 : (ldF N w2.heap.size gR T cv xb mm Ad c1 256 256 L old ts) 10 (f 51) (f 0) w1 := hF 10 (by kernel_rfl)
                clear hF hO hL
                dsimp only at hK ⊢
                generalize hf48 : f 48 = v48 at *
                generalize hf50 : f 50 = v50 at *
                generalize hf51 : f 51 = v51 at *
                obtain ⟨Bp, cp, rfl, hcp, hsp⟩ := d7
                have d9 : v50 = .slice Ad 256 c1 := d9
                have d10 : v51 = .int .i64 256 := d10
                subst d9 d10
                have CP := Lib.hid (rput_any Bp Ad cp c1 (256) old L w1 HO256.out HL256.out (by omega) hcp hc1 hsp.seg (HSD.out.below (Nat.le_refl _) hG.bel))
                rw [show (((256 : Nat)) : Int) = 256 by omega] at CP
                obtain ⟨_, _, _, ys, hoy⟩ := RwN.store (i := mm) (show RwN N w1 w2.heap.size (.slice (some ⟨gR, 0, none⟩) T cv) T ts from l13)
                have HO := Lib.hid hoy
                clear l13 hsp hoy
                go_simp
                refine CP.out.mono ?_
                rintro e w5 ⟨A6, c6, rfl, hown, hc6, hbel⟩
                exact hK.out _ _ (hG.next hbel) ⟨A6, c6, rfl, hc6, (fun a e => Nat.le_trans hG.bel.size (own_freshJ hown a e)), SegF.own hown (own_belS HO.out hbel)⟩ (fun j _ _ h => ldF_bel hbel j _ _ h) (fun m _ h => ldH_bel hbel m h)
              · -- 12: Op.indexAddr 24 t41 t43
                intro f w1 hG hO hL hF K hK
                have d0 : (ldF N w2.heap.size gR T cv xb mm Ad c1 256 256 L old ts) 0 (f 41) (f 0) w1 := hF 0 (by kernel_rfl)
                have d2 : (ldF N w2.heap.size gR T cv xb mm Ad c1 256 256 L old ts) 2 (f 43) (f 0) w1 := hF 2 (by kernel_rfl)
                clear hF hO hL
                dsimp only at hK ⊢
                generalize hf41 : f 41 = v41 at *
                generalize hf43 : f 43 = v43 at *
                subst d0 d2
                go_simp
                exact hK.out _ _ hG rfl (fun _ _ _ h => h) (fun _ _ h => h)
              · -- 13: Op.store 26 t53 t52
                intro f w1 hG hO hL hF K hK
                have l13 : (ldH N w2.heap.size gR T cv ts) 13 w1 := hL 13 (Nat.le_of_ble_eq_true (by kernel_rfl)) (by kernel_rfl)
                have d12 : (ldF N w2.heap.size gR T cv xb mm Ad c1 256 256 L old ts) 12 (f 53) (f 0) w1 := hF 12 (by kernel_rfl)
                have d11 : (ldF N w2.heap.size gR T cv xb mm Ad c1 256 256 L old ts) 11 (f 52) (f 0) w1 := hF 11 (by kernel_rfl)
                clear hF hO hL
                dsimp only at hK ⊢
                generalize hf53 : f 53 = v53 at *
                generalize hf52 : f 52 = v52 at *
                subst d12
                obtain ⟨A6, c6, rfl, hc6, hs0, hs6⟩ := d11
                have l13' : RwN N w1 w2.heap.size (.slice (some ⟨gR, 0, none⟩) T cv) T ts := l13
                have hmt : mm < ts.length := by rw [HTL.out]; exact hi1
                obtain ⟨Bp, cp, y, hq1, hq2⟩ := l13'.pick hmt (HT256.out _ (List.getElem_mem hmt))
                obtain ⟨hfr, hge, hq3, ys, hoR⟩ := l13'.store (i := mm)
                have hpl : (putL (256) old L).length = 256 := putL_length _ _ _ HO256.out HL256.out (by omega)
                have HR8 := Lib.hid (l13'.set (cd := c6) hi1 hs6 (fun a e => ⟨HFRE.out _ (hs0 a e), by rw [hpl]; exact hc6⟩))
                rw [hpl] at HR8
                have HGE := Lib.hid hge
                have hxg : xb ≠ gR := fun e => by
                  subst e
                  exact own_neV hoR hG.bx (by decide) rfl
                have HG := Lib.hid hG
                clear l13 l13' hq1 hq2 hq3 hmt hs0 hs6 hG hge hoR hpl
                go_simp
                refine hK.out undef _ ⟨HG.out.bel.setCell HGE.out _, HG.out.bx.far hxg _⟩ HR8.out (fun j hj _ h => ldF_set j hj _ _ h) ?_
                intro m2 hm2 h
                unfold ldH at *
                split at h
                · exact absurd rfl hm2
                · trivial
              intro f w6 hG hF
              have g13 : RwN N w6 w2.heap.size (.slice (some ⟨gR, 0, none⟩) T cv) T (ts.set mm (putL (256) old L)) := hF 13 (by decide)
              have HG := Lib.hid hG
              have H13 := Lib.hid g13
              clear hF hG g13
              dsimp only
              generalize f 41 = v41
              generalize f 42 = v42
              generalize f 43 = v43
              generalize f 44 = v44
              generalize f 45 = v45
              generalize f 46 = v46
              generalize f 47 = v47
              generalize f 48 = v48
              generalize f 49 = v49
              generalize f 50 = v50
              generalize f 51 = v51
              generalize f 52 = v52
              generalize f 53 = v53
              go_wp2_with fail
              exact ⟨⟨k + 1, by omega, by go_num, by rw [HT.out, HCS.out]; exact H13.out, HG.out.bel⟩, by simp [intOf]; omega⟩
            · obtain ⟨s, rfl⟩ : ∃ s : Nat, sectors = (s : Int) := ⟨sectors.toNat, by omega⟩
              have HCS := Lib.hid (show crashS keep tear (s : Int) k * 32 = 256 by unfold crashS; rw [if_pos hkb])
              have hsw : wrap64 (32 * (s : Int)) = 32 * (s : Int) := IntWalk.wrap64_in _ ⟨by omega, by omega⟩
              go_wp2_with fail
              clear hbit
              refine wp_region_late [some 41, some 42, some 43, some 44, some 45, some 46, some 47, some 48, some 49, some 50, some 51, some 52, some 53, none] (fun _ => 0) (ldF N w2.heap.size gR T cv xb mm Ad c1 256 256 L old ts) (AfG w2 xb #[.int .i64 (mm : Int), .slice Ad 256 c1]) (ldH N w2.heap.size gR T cv ts) (by kernel_rfl) G0.out H0.out rfl (by kernel_rfl) (by kernel_rfl) (by kernel_rfl) (by kernel_rfl) (fun T hT => ?_)
              simp only [List.filterMap_cons, List.filterMap_nil, id, putsS, Act.put, List.setIfInBounds_toArray, List.set_cons_zero, List.set_cons_succ] at hT
              subst hT
              refine ⟨⟨?_, ?_, ?_, ?_, ?_, ?_, ?_, ?_, ?_, ?_, ?_, ?_, ?_, ?_, trivial⟩, ?_⟩
              · -- 0: Op.move t9
                intro f w1 hG hO hL hF K hK
                clear hF hO hL
                dsimp only at hK ⊢
                go_simp
                exact hK.out _ _ hG rfl (fun _ _ _ h => h) (fun _ _ h => h)
              · -- 1: Op.fieldAddr 76 t11 0
                intro f w1 hG hO hL hF K hK
                clear hF hO hL
                dsimp only at hK ⊢
                go_simp
                exact hK.out _ _ hG rfl (fun _ _ _ h => h) (fun _ _ h => h)
              · -- 2: Op.load 3 t42
                intro f w1 hG hO hL hF K hK
                have d1 : (ldF N w2.heap.size gR T cv xb mm Ad c1 256 256 L old ts) 1 (f 42) (f 0) w1 := hF 1 (by kernel_rfl)
                clear hF hO hL
                dsimp only at hK ⊢
                generalize hf42 : f 42 = v42 at *
                subst d1
                have y := hG.bx.cell 0
                simp only [List.getElem?_toArray, List.getElem?_cons_zero] at y
                go_simp
                exact hK.out _ _ hG rfl (fun _ _ _ h => h) (fun _ _ h => h)
              · -- 3: Op.move t9
                intro f w1 hG hO hL hF K hK
                clear hF hO hL
                dsimp only at hK ⊢
                go_simp
                exact hK.out _ _ hG rfl (fun _ _ _ h => h) (fun _ _ h => h)
              · -- 4: Op.fieldAddr 76 t11 0
                intro f w1 hG hO hL hF K hK
                clear hF hO hL
                dsimp only at hK ⊢
                go_simp
                exact hK.out _ _ hG rfl (fun _ _ _ h => h) (fun _ _ h => h)
              · -- 5: Op.load 3 t45
                intro f w1 hG hO hL hF K hK
                have d4 : (ldF N w2.heap.size gR T cv xb mm Ad c1 256 256 L old ts) 4 (f 45) (f 0) w1 := hF 4 (by kernel_rfl)
                clear hF hO hL
                dsimp only at hK ⊢
                generalize hf45 : f 45 = v45 at *
                subst d4
                have y := hG.bx.cell 0
                simp only [List.getElem?_toArray, List.getElem?_cons_zero] at y
                go_simp
                exact hK.out _ _ hG rfl (fun _ _ _ h => h) (fun _ _ h => h)
              · -- 6: Op.indexAddr 24 t44 t46
                intro f w1 hG hO hL hF K hK
                have d3 : (ldF N w2.heap.size gR T cv xb mm Ad c1 256 256 L old ts) 3 (f 44) (f 0) w1 := hF 3 (by kernel_rfl)
                have d5 : (ldF N w2.heap.size gR T cv xb mm Ad c1 256 256 L old ts) 5 (f 46) (f 0) w1 := hF 5 (by kernel_rfl)
                clear hF hO hL
                dsimp only at hK ⊢
                generalize hf44 : f 44 = v44 at *
                generalize hf46 : f 46 = v46 at *
                subst d3 d5
                go_simp
                exact hK.out _ _ hG rfl (fun _ _ _ h => h) (fun _ _ h => h)
              · -- 7: Op.load 26 t47
                intro f w1 hG hO hL hF K hK
                have l13 : (ldH N w2.heap.size gR T cv ts) 13 w1 := hL 13 (Nat.le_of_ble_eq_true (by kernel_rfl)) (by kernel_rfl)
                have d6 : (ldF N w2.heap.size gR T cv xb mm Ad c1 256 256 L old ts) 6 (f 47) (f 0) w1 := hF 6 (by kernel_rfl)
                clear hF hO hL
                dsimp only at hK ⊢
                generalize hf47 : f 47 = v47 at *
                subst d6
                have l13' : RwN N w1 w2.heap.size (.slice (some ⟨gR, 0, none⟩) T cv) T ts := l13
                have hmt : mm < ts.length := by rw [HTL.out]; exact hi1
                have hto : ts[mm] = old := by have h := HOLD.out; rw [List.getElem?_eq_getElem hmt] at h; exact Option.some.inj h
                obtain ⟨Bp, cp, y, hcp, hsp⟩ := l13'.pick hmt (HT256.out _ (List.getElem_mem hmt))
                rw [hto] at hsp
                have HS := Lib.hid hsp
                clear l13 l13' hmt hto hsp
                go_simp
                exact hK.out _ _ hG ⟨Bp, cp, rfl, hcp, HS.out⟩ (fun _ _ _ h => h) (fun _ _ h => h)
              · -- 8: Op.fieldAddr 76 t11 1
                intro f w1 hG hO hL hF K hK
                clear hF hO hL
                dsimp only at hK ⊢
                go_simp
                exact hK.out _ _ hG rfl (fun _ _ _ h => h) (fun _ _ h => h)
              · -- 9: Op.load 26 t49
                intro f w1 hG hO hL hF K hK
                have d8 : (ldF N w2.heap.size gR T cv xb mm Ad c1 256 256 L old ts) 8 (f 49) (f 0) w1 := hF 8 (by kernel_rfl)
                clear hF hO hL
                dsimp only at hK ⊢
                generalize hf49 : f 49 = v49 at *
                subst d8
                have y := hG.bx.cell 1
                simp only [List.getElem?_toArray, List.getElem?_cons_zero, List.getElem?_cons_succ] at y
                go_simp
                exact hK.out _ _ hG rfl (fun _ _ _ h => h) (fun _ _ h => h)
              · -- 10: Op.move t12
                intro f w1 hG hO hL hF K hK
                clear hF hO hL
                dsimp only at hK ⊢
                go_simp
                exact hK.out _ _ hG rfl (fun _ _ _ h => h) (fun _ _ h => h)
              · -- 11: Op.call ( value (Operand.func 70), args := #[t48, t50, t51], argTypes := #[26, 2
                intro f w1 hG hO hL hF K hK
                have l13 : (ldH N w2.heap.size gR T cv ts) 13 w1 := hL 13 (Nat.le_of_ble_eq_true (by kernel_rfl)) (by kernel_rfl)
                have d7 : (ldF N w2.heap.size gR T cv xb mm Ad c1 256 256 L old ts) 7 (f 48) (f 0) w1 := hF 7 (by kernel_rfl)
                have d9 : (ldF N w2.heap.size gR T cv xb mm Ad c1 256 256 L old ts) 9 (f 50) (f 0) w1 := hF 9 (by kernel_rfl)
                have d10 : (ldF N w2.heap.size gR T cv xb mm Ad c1 256 256 L old ts) 10 (f 51) (f 0) w1 := hF 10 (by kernel_rfl)
                clear hF hO hL
                dsimp only at hK ⊢
                generalize hf48 : f 48 = v48 at *
                generalize hf50 : f 50 = v50 at *
                generalize hf51 : f 51 = v51 at *
                obtain ⟨Bp, cp, rfl, hcp, hsp⟩ := d7
                have d9 : v50 = .slice Ad 256 c1 := d9
                have d10 : v51 = .int .i64 256 := d10
                subst d9 d10
                have CP := Lib.hid (rput_any Bp Ad cp c1 (256) old L w1 HO256.out HL256.out (by omega) hcp hc1 hsp.seg (HSD.out.below (Nat.le_refl _) hG.bel))
                rw [show (((256 : Nat)) : Int) = 256 by omega] at CP
                obtain ⟨_, _, _, ys, hoy⟩ := RwN.store (i := mm) (show RwN N w1 w2.heap.size (.slice (some ⟨gR, 0, none⟩) T cv) T ts from l13)
                have HO := Lib.hid hoy
                clear l13 hsp hoy
                go_simp
                refine CP.out.mono ?_
                rintro e w5 ⟨A6, c6, rfl, hown, hc6, hbel⟩
                exact hK.out _ _ (hG.next hbel) ⟨A6, c6, rfl, hc6, (fun a e => Nat.le_trans hG.bel.size (own_freshJ hown a e)), SegF.own hown (own_belS HO.out hbel)⟩ (fun j _ _ h => ldF_bel hbel j _ _ h) (fun m _ h => ldH_bel hbel m h)
              · -- 12: Op.indexAddr 24 t41 t43
                intro f w1 hG hO hL hF K hK
                have d0 : (ldF N w2.heap.size gR T cv xb mm Ad c1 256 256 L old ts) 0 (f 41) (f 0) w1 := hF 0 (by kernel_rfl)
                have d2 : (ldF N w2.heap.size gR T cv xb mm Ad c1 256 256 L old ts) 2 (f 43) (f 0) w1 := hF 2 (by kernel_rfl)
                clear hF hO hL
                dsimp only at hK ⊢
                generalize hf41 : f 41 = v41 at *
                generalize hf43 : f 43 = v43 at *
                subst d0 d2
                go_simp
                exact hK.out _ _ hG rfl (fun _ _ _ h => h) (fun _ _ h => h)
              · -- 13: Op.store 26 t53 t52
                intro f w1 hG hO hL hF K hK
                have l13 : (ldH N w2.heap.size gR T cv ts) 13 w1 := hL 13 (Nat.le_of_ble_eq_true (by kernel_rfl)) (by kernel_rfl)
                have d12 : (ldF N w2.heap.size gR T cv xb mm Ad c1 256 256 L old ts) 12 (f 53) (f 0) w1 := hF 12 (by kernel_rfl)
                have d11 : (ldF N w2.heap.size gR T cv xb mm Ad c1 256 256 L old ts) 11 (f 52) (f 0) w1 := hF 11 (by kernel_rfl)
                clear hF hO hL
                dsimp only at hK ⊢
                generalize hf53 : f 53 = v53 at *
                generalize hf52 : f 52 = v52 at *
                subst d12
                obtain ⟨A6, c6, rfl, hc6, hs0, hs6⟩ := d11
                have l13' : RwN N w1 w2.heap.size (.slice (some ⟨gR, 0, none⟩) T cv) T ts := l13
                have hmt : mm < ts.length := by rw [HTL.out]; exact hi1
                obtain ⟨Bp, cp, y, hq1, hq2⟩ := l13'.pick hmt (HT256.out _ (List.getElem_mem hmt))
                obtain ⟨hfr, hge, hq3, ys, hoR⟩ := l13'.store (i := mm)
                have hpl : (putL (256) old L).length = 256 := putL_length _ _ _ HO256.out HL256.out (by omega)
                have HR8 := Lib.hid (l13'.set (cd := c6) hi1 hs6 (fun a e => ⟨HFRE.out _ (hs0 a e), by rw [hpl]; exact hc6⟩))
                rw [hpl] at HR8
                have HGE := Lib.hid hge
                have hxg : xb ≠ gR := fun e => by
                  subst e
                  exact own_neV hoR hG.bx (by decide) rfl
                have HG := Lib.hid hG
                clear l13 l13' hq1 hq2 hq3 hmt hs0 hs6 hG hge hoR hpl
                go_simp
                refine hK.out undef _ ⟨HG.out.bel.setCell HGE.out _, HG.out.bx.far hxg _⟩ HR8.out (fun j hj _ h => ldF_set j hj _ _ h) ?_
                intro m2 hm2 h
                unfold ldH at *
                split at h
                · exact absurd rfl hm2
                · trivial
              intro f w6 hG hF
              have g13 : RwN N w6 w2.heap.size (.slice (some ⟨gR, 0, none⟩) T cv) T (ts.set mm (putL (256) old L)) := hF 13 (by decide)
              have HG := Lib.hid hG
              have H13 := Lib.hid g13
              clear hF hG g13
              dsimp only
              generalize f 41 = v41
              generalize f 42 = v42
              generalize f 43 = v43
              generalize f 44 = v44
              generalize f 45 = v45
              generalize f 46 = v46
              generalize f 47 = v47
              generalize f 48 = v48
              generalize f 49 = v49
              generalize f 50 = v50
              generalize f 51 = v51
              generalize f 52 = v52
              generalize f 53 = v53
              go_wp2_with fail
              exact ⟨⟨k + 1, by omega, by go_num, by rw [HT.out, HCS.out]; exact H13.out, HG.out.bel⟩, by simp [intOf]; omega⟩
          · have HCS := Lib.hid (show crashS keep tear sectors k * 32 = 256 by unfold crashS; rw [if_pos hkb])
            go_wp2_with fail
            clear hbit
            refine wp_region_late [some 41, some 42, some 43, some 44, some 45, some 46, some 47, some 48, some 49, some 50, some 51, some 52, some 53, none] (fun _ => 0) (ldF N w2.heap.size gR T cv xb mm Ad c1 256 256 L old ts) (AfG w2 xb #[.int .i64 (mm : Int), .slice Ad 256 c1]) (ldH N w2.heap.size gR T cv ts) (by kernel_rfl) G0.out H0.out rfl (by kernel_rfl) (by kernel_rfl) (by kernel_rfl) (by kernel_rfl) (fun T hT => ?_)
            simp only [List.filterMap_cons, List.filterMap_nil, id, putsS, Act.put, List.setIfInBounds_toArray, List.set_cons_zero, List.set_cons_succ] at hT
            subst hT
            refine ⟨⟨?_, ?_, ?_, ?_, ?_, ?_, ?_, ?_, ?_, ?_, ?_, ?_, ?_, ?_, trivial⟩, ?_⟩
            · -- 0: Op.move t9
              intro f w1 hG hO hL hF K hK
              clear hF hO hL
              dsimp only at hK ⊢
              go_simp
              exact hK.out _ _ hG rfl (fun _ _ _ h => h) (fun _ _ h => h)
            · -- 1: Op.fieldAddr 76 t11 0
              intro f w1 hG hO hL hF K hK
              clear hF hO hL
              dsimp only at hK ⊢
              go_simp
              exact hK.out _ _ hG rfl (fun _ _ _ h => h) (fun _ _ h => h)
            · -- 2: Op.load 3 t42
              intro f w1 hG hO hL hF K hK
              have d1 : (ldF N w2.heap.size gR T cv xb mm Ad c1 256 256 L old ts) 1 (f 42) (f 0) w1 := hF 1 (by kernel_rfl)
              clear hF hO hL
              dsimp only at hK ⊢
              generalize hf42 : f 42 = v42 at *
              subst d1
              have y := hG.bx.cell 0
              simp only [List.getElem?_toArray, List.getElem?_cons_zero] at y
              go_simp
              exact hK.out _ _ hG rfl (fun _ _ _ h => h) (fun _ _ h => h)
            · -- 3: Op.move t9
              intro f w1 hG hO hL hF K hK
              clear hF hO hL
              dsimp only at hK ⊢
              go_simp
              exact hK.out _ _ hG rfl (fun _ _ _ h => h) (fun _ _ h => h)
            · -- 4: Op.fieldAddr 76 t11 0
              intro f w1 hG hO hL hF K hK
              clear hF hO hL
              dsimp only at hK ⊢
              go_simp
              exact hK.out _ _ hG rfl (fun _ _ _ h => h) (fun _ _ h => h)
            · -- 5: Op.load 3 t45
              intro f w1 hG hO hL hF K hK
              have d4 : (ldF N w2.heap.size gR T cv xb mm Ad c1 256 256 L old ts) 4 (f 45) (f 0) w1 := hF 4 (by kernel_rfl)
              clear hF hO hL
              dsimp only at hK ⊢
              generalize hf45 : f 45 = v45 at *
              subst d4
              have y := hG.bx.cell 0
              simp only [List.getElem?_toArray, List.getElem?_cons_zero] at y
              go_simp
              exact hK.out _ _ hG rfl (fun _ _ _ h => h) (fun _ _ h => h)
            · -- 6: Op.indexAddr 24 t44 t46
              intro f w1 hG hO hL hF K hK
              have d3 : (ldF N w2.heap.size gR T cv xb mm Ad c1 256 256 L old ts) 3 (f 44) (f 0) w1 := hF 3 (by kernel_rfl)
              have d5 : (ldF N w2.heap.size gR T cv xb mm Ad c1 256 256 L old ts) 5 (f 46) (f 0) w1 := hF 5 (by kernel_rfl)
              clear hF hO hL
              dsimp only at hK ⊢
              generalize hf44 : f 44 = v44 at *
              generalize hf46 : f 46 = v46 at *
              subst d3 d5
              go_simp
              exact hK.out _ _ hG rfl (fun _ _ _ h => h) (fun _ _ h => h)
            · -- 7: Op.load 26 t47
              intro f w1 hG hO hL hF K hK
              have l13 : (ldH N w2.heap.size gR T cv ts) 13 w1 := hL 13 (Nat.le_of_ble_eq_true (by kernel_rfl)) (by kernel_rfl)
              have d6 : (ldF N w2.heap.size gR T cv xb mm Ad c1 256 256 L old ts) 6 (f 47) (f 0) w1 := hF 6 (by kernel_rfl)
              clear hF hO hL
              dsimp only at hK ⊢
              generalize hf47 : f 47 = v47 at *
              subst d6
              have l13' : RwN N w1 w2.heap.size (.slice (some ⟨gR, 0, none⟩) T cv) T ts := l13
              have hmt : mm < ts.length := by rw [HTL.out]; exact hi1
              have hto : ts[mm] = old := by have h := HOLD.out; rw [List.getElem?_eq_getElem hmt] at h; exact Option.some.inj h
              obtain ⟨Bp, cp, y, hcp, hsp⟩ := l13'.pick hmt (HT256.out _ (List.getElem_mem hmt))
              rw [hto] at hsp
              have HS := Lib.hid hsp
              clear l13 l13' hmt hto hsp
              go_simp
              exact hK.out _ _ hG ⟨Bp, cp, rfl, hcp, HS.out⟩ (fun _ _ _ h => h) (fun _ _ h => h)
            · -- 8: Op.fieldAddr 76 t11 1
              intro f w1 hG hO hL hF K hK
              clear hF hO hL
              dsimp only at hK ⊢
              go_simp
              exact hK.out _ _ hG rfl (fun _ _ _ h => h) (fun _ _ h => h)
            · -- 9: Op.load 26 t49
              intro f w1 hG hO hL hF K hK
              have d8 : (ldF N w2.heap.size gR T cv xb mm Ad c1 256 256 L old ts) 8 (f 49) (f 0) w1 := hF 8 (by kernel_rfl)
              clear hF hO hL
              dsimp only at hK ⊢
              generalize hf49 : f 49 = v49 at *
              subst d8
              have y := hG.bx.cell 1
              simp only [List.getElem?_toArray, List.getElem?_cons_zero, List.getElem?_cons_succ] at y
              go_simp
              exact hK.out _ _ hG rfl (fun _ _ _ h => h) (fun _ _ h => h)
            · -- 10: Op.move t12
              intro f w1 hG hO hL hF K hK
              clear hF hO hL
              dsimp only at hK ⊢
              go_simp
              exact hK.out _ _ hG rfl (fun _ _ _ h => h) (fun _ _ h => h)
            · -- 11: Op.call ( value (Operand.func 70), args := #[t48, t50, t51], argTypes := #[26, 2
              intro f w1 hG hO hL hF K hK
              have l13 : (ldH N w2.heap.size gR T cv ts) 13 w1 := hL 13 (Nat.le_of_ble_eq_true (by kernel_rfl)) (by kernel_rfl)
              have d7 : (ldF N w2.heap.size gR T cv xb mm Ad c1 256 256 L old ts) 7 (f 48) (f 0) w1 := hF 7 (by kernel_rfl)
              have d9 : (ldF N w2.heap.size gR T cv xb mm Ad c1 256 256 L old ts) 9 (f 50) (f 0) w1 := hF 9 (by kernel_rfl)
              have d10 : (ldF N w2.heap.size gR T cv xb mm Ad c1 256 256 L old ts) 10 (f 51) (f 0) w1 := hF 10 (by kernel_rfl)
              clear hF hO hL
              dsimp only at hK ⊢
              generalize hf48 : f 48 = v48 at *
              generalize hf50 : f 50 = v50 at *
              generalize hf51 : f 51 = v51 at *
              obtain ⟨Bp, cp, rfl, hcp, hsp⟩ := d7
              have d9 : v50 = .slice Ad 256 c1 := d9
              have d10 : v51 = .int .i64 256 := d10
              subst d9 d10
              have CP := Lib.hid (rput_any Bp Ad cp c1 (256) old L w1 HO256.out HL256.out (by omega) hcp hc1 hsp.seg (HSD.out.below (Nat.le_refl _) hG.bel))
              rw [show (((256 : Nat)) : Int) = 256 by omega] at CP
              obtain ⟨_, _, _, ys, hoy⟩ := RwN.store (i := mm) (show RwN N w1 w2.heap.size (.slice (some ⟨gR, 0, none⟩) T cv) T ts from l13)
              have HO := Lib.hid hoy
              clear l13 hsp hoy
              go_simp
              refine CP.out.mono ?_
              rintro e w5 ⟨A6, c6, rfl, hown, hc6, hbel⟩
              exact hK.out _ _ (hG.next hbel) ⟨A6, c6, rfl, hc6, (fun a e => Nat.le_trans hG.bel.size (own_freshJ hown a e)), SegF.own hown (own_belS HO.out hbel)⟩ (fun j _ _ h => ldF_bel hbel j _ _ h) (fun m _ h => ldH_bel hbel m h)
            · -- 12: Op.indexAddr 24 t41 t43
              intro f w1 hG hO hL hF K hK
              have d0 : (ldF N w2.heap.size gR T cv xb mm Ad c1 256 256 L old ts) 0 (f 41) (f 0) w1 := hF 0 (by kernel_rfl)
              have d2 : (ldF N w2.heap.size gR T cv xb mm Ad c1 256 256 L old ts) 2 (f 43) (f 0) w1 := hF 2 (by kernel_rfl)
              clear hF hO hL
              dsimp only at hK ⊢
              generalize hf41 : f 41 = v41 at *
              generalize hf43 : f 43 = v43 at *
              subst d0 d2
              go_simp
              exact hK.out _ _ hG rfl (fun _ _ _ h => h) (fun _ _ h => h)
            · -- 13: Op.store 26 t53 t52
              intro f w1 hG hO hL hF K hK
              have l13 : (ldH N w2.heap.size gR T cv ts) 13 w1 := hL 13 (Nat.le_of_ble_eq_true (by kernel_rfl)) (by kernel_rfl)
              have d12 : (ldF N w2.heap.size gR T cv xb mm Ad c1 256 256 L old ts) 12 (f 53) (f 0) w1 := hF 12 (by kernel_rfl)
              have d11 : (ldF N w2.heap.size gR T cv xb mm Ad c1 256 256 L old ts) 11 (f 52) (f 0) w1 := hF 11 (by kernel_rfl)
              clear hF hO hL
              dsimp only at hK ⊢
              generalize hf53 : f 53 = v53 at *
              generalize hf52 : f 52 = v52 at *
              subst d12
              obtain ⟨A6, c6, rfl, hc6, hs0, hs6⟩ := d11
              have l13' : RwN N w1 w2.heap.size (.slice (some ⟨gR, 0, none⟩) T cv) T ts := l13
              have hmt : mm < ts.length := by rw [HTL.out]; exact hi1
              obtain ⟨Bp, cp, y, hq1, hq2⟩ := l13'.pick hmt (HT256.out _ (List.getElem_mem hmt))
              obtain ⟨hfr, hge, hq3, ys, hoR⟩ := l13'.store (i := mm)
              have hpl : (putL (256) old L).length = 256 := putL_length _ _ _ HO256.out HL256.out (by omega)
              have HR8 := Lib.hid (l13'.set (cd := c6) hi1 hs6 (fun a e => ⟨HFRE.out _ (hs0 a e), by rw [hpl]; exact hc6⟩))
              rw [hpl] at HR8
              have HGE := Lib.hid hge
              have hxg : xb ≠ gR := fun e => by
                subst e
                exact own_neV hoR hG.bx (by decide) rfl
              have HG := Lib.hid hG
              clear l13 l13' hq1 hq2 hq3 hmt hs0 hs6 hG hge hoR hpl
              go_simp
              refine hK.out undef _ ⟨HG.out.bel.setCell HGE.out _, HG.out.bx.far hxg _⟩ HR8.out (fun j hj _ h => ldF_set j hj _ _ h) ?_
              intro m2 hm2 h
              unfold ldH at *
              split at h
              · exact absurd rfl hm2
              · trivial
            intro f w6 hG hF
            have g13 : RwN N w6 w2.heap.size (.slice (some ⟨gR, 0, none⟩) T cv) T (ts.set mm (putL (256) old L)) := hF 13 (by decide)
            have HG := Lib.hid hG
            have H13 := Lib.hid g13
            clear hF hG g13
            dsimp only
            generalize f 41 = v41
            generalize f 42 = v42
            generalize f 43 = v43
            generalize f 44 = v44
            generalize f 45 = v45
            generalize f 46 = v46
            generalize f 47 = v47
            generalize f 48 = v48
            generalize f 49 = v49
            generalize f 50 = v50
            generalize f 51 = v51
            generalize f 52 = v52
            generalize f 53 = v53
            go_wp2_with fail
            exact ⟨⟨k + 1, by omega, by go_num, by rw [HT.out, HCS.out]; exact H13.out, HG.out.bel⟩, by simp [intOf]; omega⟩
        · have hteb : ((k : Int) == tear) = false := by simpa using hte
          have HCS := Lib.hid (show crashS keep tear sectors k * 32 = 256 by unfold crashS; rw [if_pos hkb])
          clear hte
          go_wp2_with fail
          clear hbit
          refine wp_region_late [some 41, some 42, some 43, some 44, some 45, some 46, some 47, some 48, some 49, some 50, some 51, some 52, some 53, none] (fun _ => 0) (ldF N w2.heap.size gR T cv xb mm Ad c1 256 256 L old ts) (AfG w2 xb #[.int .i64 (mm : Int), .slice Ad 256 c1]) (ldH N w2.heap.size gR T cv ts) (by kernel_rfl) G0.out H0.out rfl (by kernel_rfl) (by kernel_rfl) (by kernel_rfl) (by kernel_rfl) (fun T hT => ?_)
          simp only [List.filterMap_cons, List.filterMap_nil, id, putsS, Act.put, List.setIfInBounds_toArray, List.set_cons_zero, List.set_cons_succ] at hT
          subst hT
          refine ⟨⟨?_, ?_, ?_, ?_, ?_, ?_, ?_, ?_, ?_, ?_, ?_, ?_, ?_, ?_, trivial⟩, ?_⟩
          · -- 0: Op.move t9
            intro f w1 hG hO hL hF K hK
            clear hF hO hL
            dsimp only at hK ⊢
            go_simp
            exact hK.out _ _ hG rfl (fun _ _ _ h => h) (fun _ _ h => h)
          · -- 1: Op.fieldAddr 76 t11 0
            intro f w1 hG hO hL hF K hK
            clear hF hO hL
            dsimp only at hK ⊢
            go_simp
            exact hK.out _ _ hG rfl (fun _ _ _ h => h) (fun _ _ h => h)
          · -- 2: Op.load 3 t42
            intro f w1 hG hO hL hF K hK
            have d1 : (ldF N w2.heap.size gR T cv xb mm Ad c1 256 256 L old ts) 1 (f 42) (f 0) w1 := hF 1 (by kernel_rfl)
            clear hF hO hL
            dsimp only at hK ⊢
            generalize hf42 : f 42 = v42 at *
            subst d1
            have y := hG.bx.cell 0
            simp only [List.getElem?_toArray, List.getElem?_cons_zero] at y
            go_simp
            exact hK.out _ _ hG rfl (fun _ _ _ h => h) (fun _ _ h => h)
          · -- 3: Op.move t9
            intro f w1 hG hO hL hF K hK
            clear hF hO hL
            dsimp only at hK ⊢
            go_simp
            exact hK.out _ _ hG rfl (fun _ _ _ h => h) (fun _ _ h => h)
          · -- 4: Op.fieldAddr 76 t11 0
            intro f w1 hG hO hL hF K hK
            clear hF hO hL
            dsimp only at hK ⊢
            go_simp
            exact hK.out _ _ hG rfl (fun _ _ _ h => h) (fun _ _ h => h)
          · -- 5: Op.load 3 t45
            intro f w1 hG hO hL hF K hK
            have d4 : (ldF N w2.heap.size gR T cv xb mm Ad c1 256 256 L old ts) 4 (f 45) (f 0) w1 := hF 4 (by kernel_rfl)
            clear hF hO hL
            dsimp only at hK ⊢
            generalize hf45 : f 45 = v45 at *
            subst d4
            have y := hG.bx.cell 0
            simp only [List.getElem?_toArray, List.getElem?_cons_zero] at y
            go_simp
            exact hK.out _ _ hG rfl (fun _ _ _ h => h) (fun _ _ h => h)
          · -- 6: Op.indexAddr 24 t44 t46
            intro f w1 hG hO hL hF K hK
            have d3 : (ldF N w2.heap.size gR T cv xb mm Ad c1 256 256 L old ts) 3 (f 44) (f 0) w1 := hF 3 (by kernel_rfl)
            have d5 : (ldF N w2.heap.size gR T cv xb mm Ad c1 256 256 L old ts) 5 (f 46) (f 0) w1 := hF 5 (by kernel_rfl)
            clear hF hO hL
            dsimp only at hK ⊢
            generalize hf44 : f 44 = v44 at *
            generalize hf46 : f 46 = v46 at *
            subst d3 d5
            go_simp
            exact hK.out _ _ hG rfl (fun _ _ _ h => h) (fun _ _ h => h)
          · -- 7: Op.load 26 t47
            intro f w1 hG hO hL hF K hK
            have l13 : (ldH N w2.heap.size gR T cv ts) 13 w1 := hL 13 (Nat.le_of_ble_eq_true (by kernel_rfl)) (by kernel_rfl)
            have d6 : (ldF N w2.heap.size gR T cv xb mm Ad c1 256 256 L old ts) 6 (f 47) (f 0) w1 := hF 6 (by kernel_rfl)
            clear hF hO hL
            dsimp only at hK ⊢
            generalize hf47 : f 47 = v47 at *
            subst d6
            have l13' : RwN N w1 w2.heap.size (.slice (some ⟨gR, 0, none⟩) T cv) T ts := l13
            have hmt : mm < ts.length := by rw [HTL.out]; exact hi1
            have hto : ts[mm] = old := by have h := HOLD.out; rw [List.getElem?_eq_getElem hmt] at h; exact Option.some.inj h
            obtain ⟨Bp, cp, y, hcp, hsp⟩ := l13'.pick hmt (HT256.out _ (List.getElem_mem hmt))
            rw [hto] at hsp
            have HS := Lib.hid hsp
            clear l13 l13' hmt hto hsp
            go_simp
            exact hK.out _ _ hG ⟨Bp, cp, rfl, hcp, HS.out⟩ (fun _ _ _ h => h) (fun _ _ h => h)
          · -- 8: Op.fieldAddr 76 t11 1
            intro f w1 hG hO hL hF K hK
            clear hF hO hL
            dsimp only at hK ⊢
            go_simp
            exact hK.out _ _ hG rfl (fun _ _ _ h => h) (fun _ _ h => h)
          · -- 9: Op.load 26 t49
            intro f w1 hG hO hL hF K hK
            have d8 : (ldF N w2.heap.size gR T cv xb mm Ad c1 256 256 L old ts) 8 (f 49) (f 0) w1 := hF 8 (by kernel_rfl)
            clear hF hO hL
            dsimp only at hK ⊢
            generalize hf49 : f 49 = v49 at *
            subst d8
            have y := hG.bx.cell 1
            simp only [List.getElem?_toArray, List.getElem?_cons_zero, List.getElem?_cons_succ] at y
            go_simp
            exact hK.out _ _ hG rfl (fun _ _ _ h => h) (fun _ _ h => h)
          · -- 10: Op.move t12
            intro f w1 hG hO hL hF K hK
            clear hF hO hL
            dsimp only at hK ⊢
            go_simp
            exact hK.out _ _ hG rfl (fun _ _ _ h => h) (fun _ _ h => h)
          · -- 11: Op.call ( value (Operand.func 70), args := #[t48, t50, t51], argTypes := #[26, 2
            intro f w1 hG hO hL hF K hK
            have l13 : (ldH N w2.heap.size gR T cv ts) 13 w1 := hL 13 (Nat.le_of_ble_eq_true (by kernel_rfl)) (by kernel_rfl)
            have d7 : (ldF N w2.heap.size gR T cv xb mm Ad c1 256 256 L old ts) 7 (f 48) (f 0) w1 := hF 7 (by kernel_rfl)
            have d9 : (ldF N w2.heap.size gR T cv xb mm Ad c1 256 256 L old ts) 9 (f 50) (f 0) w1 := hF 9 (by kernel_rfl)
            have d10 : (ldF N w2.heap.size gR T cv xb mm Ad c1 256 256 L old ts) 10 (f 51) (f 0) w1 := hF 10 (by kernel_rfl)
            clear hF hO hL
            dsimp only at hK ⊢
            generalize hf48 : f 48 = v48 at *
            generalize hf50 : f 50 = v50 at *
            generalize hf51 : f 51 = v51 at *
            obtain ⟨Bp, cp, rfl, hcp, hsp⟩ := d7
            have d9 : v50 = .slice Ad 256 c1 := d9
            have d10 : v51 = .int .i64 256 := d10
            subst d9 d10
            have CP := Lib.hid (rput_any Bp Ad cp c1 (256) old L w1 HO256.out HL256.out (by omega) hcp hc1 hsp.seg (HSD.out.below (Nat.le_refl _) hG.bel))
            rw [show (((256 : Nat)) : Int) = 256 by omega] at CP
            obtain ⟨_, _, _, ys, hoy⟩ := RwN.store (i := mm) (show RwN N w1 w2.heap.size (.slice (some ⟨gR, 0, none⟩) T cv) T ts from l13)
            have HO := Lib.hid hoy
            clear l13 hsp hoy
            go_simp
            refine CP.out.mono ?_
            rintro e w5 ⟨A6, c6, rfl, hown, hc6, hbel⟩
            exact hK.out _ _ (hG.next hbel) ⟨A6, c6, rfl, hc6, (fun a e => Nat.le_trans hG.bel.size (own_freshJ hown a e)), SegF.own hown (own_belS HO.out hbel)⟩ (fun j _ _ h => ldF_bel hbel j _ _ h) (fun m _ h => ldH_bel hbel m h)
          · -- 12: Op.indexAddr 24 t41 t43
            intro f w1 hG hO hL hF K hK
            have d0 : (ldF N w2.heap.size gR T cv xb mm Ad c1 256 256 L old ts) 0 (f 41) (f 0) w1 := hF 0 (by kernel_rfl)
            have d2 : (ldF N w2.heap.size gR T cv xb mm Ad c1 256 256 L old ts) 2 (f 43) (f 0) w1 := hF 2 (by kernel_rfl)
            clear hF hO hL
            dsimp only at hK ⊢
            generalize hf41 : f 41 = v41 at *
            generalize hf43 : f 43 = v43 at *
            subst d0 d2
            go_simp
            exact hK.out _ _ hG rfl (fun _ _ _ h => h) (fun _ _ h => h)
          · -- 13: Op.store 26 t53 t52
            intro f w1 hG hO hL hF K hK
            have l13 : (ldH N w2.heap.size gR T cv ts) 13 w1 := hL 13 (Nat.le_of_ble_eq_true (by kernel_rfl)) (by kernel_rfl)
            have d12 : (ldF N w2.heap.size gR T cv xb mm Ad c1 256 256 L old ts) 12 (f 53) (f 0) w1 := hF 12 (by kernel_rfl)
            have d11 : (ldF N w2.heap.size gR T cv xb mm Ad c1 256 256 L old ts) 11 (f 52) (f 0) w1 := hF 11 (by kernel_rfl)
            clear hF hO hL
            dsimp only at hK ⊢
            generalize hf53 : f 53 = v53 at *
            generalize hf52 : f 52 = v52 at *
            subst d12
            obtain ⟨A6, c6, rfl, hc6, hs0, hs6⟩ := d11
            have l13' : RwN N w1 w2.heap.size (.slice (some ⟨gR, 0, none⟩) T cv) T ts := l13
            have hmt : mm < ts.length := by rw [HTL.out]; exact hi1
            obtain ⟨Bp, cp, y, hq1, hq2⟩ := l13'.pick hmt (HT256.out _ (List.getElem_mem hmt))
            obtain ⟨hfr, hge, hq3, ys, hoR⟩ := l13'.store (i := mm)
            have hpl : (putL (256) old L).length = 256 := putL_length _ _ _ HO256.out HL256.out (by omega)
            have HR8 := Lib.hid (l13'.set (cd := c6) hi1 hs6 (fun a e => ⟨HFRE.out _ (hs0 a e), by rw [hpl]; exact hc6⟩))
            rw [hpl] at HR8
            have HGE := Lib.hid hge
            have hxg : xb ≠ gR := fun e => by
              subst e
              exact own_neV hoR hG.bx (by decide) rfl
            have HG := Lib.hid hG
            clear l13 l13' hq1 hq2 hq3 hmt hs0 hs6 hG hge hoR hpl
            go_simp
            refine hK.out undef _ ⟨HG.out.bel.setCell HGE.out _, HG.out.bx.far hxg _⟩ HR8.out (fun j hj _ h => ldF_set j hj _ _ h) ?_
            intro m2 hm2 h
            unfold ldH at *
            split at h
            · exact absurd rfl hm2
            · trivial
          intro f w6 hG hF
          have g13 : RwN N w6 w2.heap.size (.slice (some ⟨gR, 0, none⟩) T cv) T (ts.set mm (putL (256) old L)) := hF 13 (by decide)
          have HG := Lib.hid hG
          have H13 := Lib.hid g13
          clear hF hG g13
          dsimp only
          generalize f 41 = v41
          generalize f 42 = v42
          generalize f 43 = v43
          generalize f 44 = v44
          generalize f 45 = v45
          generalize f 46 = v46
          generalize f 47 = v47
          generalize f 48 = v48
          generalize f 49 = v49
          generalize f 50 = v50
          generalize f 51 = v51
          generalize f 52 = v52
          generalize f 53 = v53
          go_wp2_with fail
          exact ⟨⟨k + 1, by omega, by go_num, by rw [HT.out, HCS.out]; exact H13.out, HG.out.bel⟩, by simp [intOf]; omega⟩
      · have hkf : keep.testBit k = false := by simpa using hkb
        rw [hkf] at hbit
        by_cases hte : (k : Int) = tear
        · have hteb : ((k : Int) == tear) = true := by simpa using hte
          by_cases hse : 0 < sectors
          · by_cases h8 : 8 < sectors
            · have HCS := Lib.hid (show crashS keep tear sectors k * 32 = 256 by unfold crashS; rw [if_neg hkb, if_pos hte]; omega)
              clear hte
              go_wp2_with fail
              clear hbit
              refine wp_region_late [some 41, some 42, some 43, some 44, some 45, some 46, some 47, some 48, some 49, some 50, some 51, some 52, some 53, none] (fun _ => 0) (ldF N w2.heap.size gR T cv xb mm Ad c1 256 256 L old ts) (AfG w2 xb #[.int .i64 (mm : Int), .slice Ad 256 c1]) (ldH N w2.heap.size gR T cv ts) (by kernel_rfl) G0.out H0.out rfl (by kernel_rfl) (by kernel_rfl) (by kernel_rfl) (by kernel_rfl) (fun T hT => ?_)
              simp only [List.filterMap_cons, List.filterMap_nil, id, putsS, Act.put, List.setIfInBounds_toArray, List.set_cons_zero, List.set_cons_succ] at hT
              subst hT
              refine ⟨⟨?_, ?_, ?_, ?_, ?_, ?_, ?_, ?_, ?_, ?_, ?_, ?_, ?_, ?_, trivial⟩, ?_⟩
              · -- 0: Op.move t9
                intro f w1 hG hO hL hF K hK
                clear hF hO hL
                dsimp only at hK ⊢
                go_simp
                exact hK.out _ _ hG rfl (fun _ _ _ h => h) (fun _ _ h => h)
              · -- 1: Op.fieldAddr 76 t11 0
                intro f w1 hG hO hL hF K hK
                clear hF hO hL
                dsimp only at hK ⊢
                go_simp
                exact hK.out _ _ hG rfl (fun _ _ _ h => h) (fun _ _ h => h)
              · -- 2: Op.load 3 t42
                intro f w1 hG hO hL hF K hK
                have d1 : (ldF N w2.heap.size gR T cv xb mm Ad c1 256 256 L old ts) 1 (f 42) (f 0) w1 := hF 1 (by kernel_rfl)
                clear hF hO hL
                dsimp only at hK ⊢
                generalize hf42 : f 42 = v42 at *
                subst d1
                have y := hG.bx.cell 0
                simp only [List.getElem?_toArray, List.getElem?_cons_zero] at y
                go_simp
                exact hK.out _ _ hG rfl (fun _ _ _ h => h) (fun _ _ h => h)
              · -- 3: Op.move t9
                intro f w1 hG hO hL hF K hK
                clear hF hO hL
                dsimp only at hK ⊢
                go_simp
                exact hK.out _ _ hG rfl (fun _ _ _ h => h) (fun _ _ h => h)
              · -- 4: Op.fieldAddr 76 t11 0
                intro f w1 hG hO hL hF K hK
                clear hF hO hL
                dsimp only at hK ⊢
                go_simp
                exact hK.out _ _ hG rfl (fun _ _ _ h => h) (fun _ _ h => h)
              · -- 5: Op.load 3 t45
                intro f w1 hG hO hL hF K hK
                have d4 : (ldF N w2.heap.size gR T cv xb mm Ad c1 256 256 L old ts) 4 (f 45) (f 0) w1 := hF 4 (by kernel_rfl)
                clear hF hO hL
                dsimp only at hK ⊢
                generalize hf45 : f 45 = v45 at *
                subst d4
                have y := hG.bx.cell 0
                simp only [List.getElem?_toArray, List.getElem?_cons_zero] at y
                go_simp
                exact hK.out _ _ hG rfl (fun _ _ _ h => h) (fun _ _ h => h)
              · -- 6: Op.indexAddr 24 t44 t46
                intro f w1 hG hO hL hF K hK
                have d3 : (ldF N w2.heap.size gR T cv xb mm Ad c1 256 256 L old ts) 3 (f 44) (f 0) w1 := hF 3 (by kernel_rfl)
                have d5 : (ldF N w2.heap.size gR T cv xb mm Ad c1 256 256 L old ts) 5 (f 46) (f 0) w1 := hF 5 (by kernel_rfl)
                clear hF hO hL
                dsimp only at hK ⊢
                generalize hf44 : f 44 = v44 at *
                generalize hf46 : f 46 = v46 at *
                subst d3 d5
                go_simp
                exact hK.out _ _ hG rfl (fun _ _ _ h => h) (fun _ _ h => h)
              · -- 7: Op.load 26 t47
                intro f w1 hG hO hL hF K hK
                have l13 : (ldH N w2.heap.size gR T cv ts) 13 w1 := hL 13 (Nat.le_of_ble_eq_true (by kernel_rfl)) (by kernel_rfl)
                have d6 : (ldF N w2.heap.size gR T cv xb mm Ad c1 256 256 L old ts) 6 (f 47) (f 0) w1 := hF 6 (by kernel_rfl)
                clear hF hO hL
                dsimp only at hK ⊢
                generalize hf47 : f 47 = v47 at *
                subst d6
                have l13' : RwN N w1 w2.heap.size (.slice (some ⟨gR, 0, none⟩) T cv) T ts := l13
                have hmt : mm < ts.length := by rw [HTL.out]; exact hi1
                have hto : ts[mm] = old := by have h := HOLD.out; rw [List.getElem?_eq_getElem hmt] at h; exact Option.some.inj h
                obtain ⟨Bp, cp, y, hcp, hsp⟩ := l13'.pick hmt (HT256.out _ (List.getElem_mem hmt))
                rw [hto] at hsp
                have HS := Lib.hid hsp
                clear l13 l13' hmt hto hsp
                go_simp
                exact hK.out _ _ hG ⟨Bp, cp, rfl, hcp, HS.out⟩ (fun _ _ _ h => h) (fun _ _ h => h)
              · -- 8: Op.fieldAddr 76 t11 1
                intro f w1 hG hO hL hF K hK
                clear hF hO hL
                dsimp only at hK ⊢
                go_simp
                exact hK.out _ _ hG rfl (fun _ _ _ h => h) (fun _ _ h => h)
              · -- 9: Op.load 26 t49
                intro f w1 hG hO hL hF K hK
                have d8 : (ldF N w2.heap.size gR T cv xb mm Ad c1 256 256 L old ts) 8 (f 49) (f 0) w1 := hF 8 (by kernel_rfl)
                clear hF hO hL
                dsimp only at hK ⊢
                generalize hf49 : f 49 = v49 at *
                subst d8
                have y := hG.bx.cell 1
                simp only [List.getElem?_toArray, List.getElem?_cons_zero, List.getElem?_cons_succ] at y
                go_simp
                exact hK.out _ _ hG rfl (fun _ _ _ h => h) (fun _ _ h => h)
              · -- 10: Op.move t12
                intro f w1 hG hO hL hF K hK
                clear hF hO hL
                dsimp only at hK ⊢
                go_simp
                exact hK.out _ _ hG rfl (fun _ _ _ h => h) (fun _ _ h => h)
              · -- 11: Op.call ( value (Operand.func 70), args := #[t48, t50, t51], argTypes := #[26, 2
                intro f w1 hG hO hL hF K hK
                have l13 : (ldH N w2.heap.size gR T cv ts) 13 w1 := hL 13 (Nat.le_of_ble_eq_true (by kernel_rfl)) (by kernel_rfl)
                have d7 : (ldF N w2.heap.size gR T cv xb mm Ad c1 256 256 L old ts) 7 (f 48) (f 0) w1 := hF 7 (by kernel_rfl)
                have d9 : (ldF N w2.heap.size gR T cv xb mm Ad c1 256 256 L old ts) 9 (f 50) (f 0) w1 := hF 9 (by kernel_rfl)
                have d10 : (ldF N w2.heap.size gR T cv xb mm Ad c1 256 256 L old ts) 10 (f 51) (f 0) w1 := hF 10 (by kernel_rfl)
                clear hF hO hL
                dsimp only at hK ⊢
                generalize hf48 : f 48 = v48 at *
                generalize hf50 : f 50 = v50 at *
                generalize hf51 : f 51 = v51 at *
                obtain ⟨Bp, cp, rfl, hcp, hsp⟩ := d7
                have d9 : v50 = .slice Ad 256 c1 := d9
                have d10 : v51 = .int .i64 256 := d10
                subst d9 d10
                have CP := Lib.hid (rput_any Bp Ad cp c1 (256) old L w1 HO256.out HL256.out (by omega) hcp hc1 hsp.seg (HSD.out.below (Nat.le_refl _) hG.bel))
                rw [show (((256 : Nat)) : Int) = 256 by omega] at CP
                obtain ⟨_, _, _, ys, hoy⟩ := RwN.store (i := mm) (show RwN N w1 w2.heap.size (.slice (some ⟨gR, 0, none⟩) T cv) T ts from l13)
                have HO := Lib.hid hoy
                clear l13 hsp hoy
                go_simp
                refine CP.out.mono ?_
                rintro e w5 ⟨A6, c6, rfl, hown, hc6, hbel⟩
                exact hK.out _ _ (hG.next hbel) ⟨A6, c6, rfl, hc6, (fun a e => Nat.le_trans hG.bel.size (own_freshJ hown a e)), SegF.own hown (own_belS HO.out hbel)⟩ (fun j _ _ h => ldF_bel hbel j _ _ h) (fun m _ h => ldH_bel hbel m h)
              · -- 12: Op.indexAddr 24 t41 t43
                intro f w1 hG hO hL hF K hK
                have d0 : (ldF N w2.heap.size gR T cv xb mm Ad c1 256 256 L old ts) 0 (f 41) (f 0) w1 := hF 0 (by kernel_rfl)
                have d2 : (ldF N w2.heap.size gR T cv xb mm Ad c1 256 256 L old ts) 2 (f 43) (f 0) w1 := hF 2 (by kernel_rfl)
                clear hF hO hL
                dsimp only at hK ⊢
                generalize hf41 : f 41 = v41 at *
                generalize hf43 : f 43 = v43 at *
                subst d0 d2
                go_simp
                exact hK.out _ _ hG rfl (fun _ _ _ h => h) (fun _ _ h => h)
              · -- 13: Op.store 26 t53 t52
                intro f w1 hG hO hL hF K hK
                have l13 : (ldH N w2.heap.size gR T cv ts) 13 w1 := hL 13 (Nat.le_of_ble_eq_true (by kernel_rfl)) (by kernel_rfl)
                have d12 : (ldF N w2.heap.size gR T cv xb mm Ad c1 256 256 L old ts) 12 (f 53) (f 0) w1 := hF 12 (by kernel_rfl)
                have d11 : (ldF N w2.heap.size gR T cv xb mm Ad c1 256 256 L old ts) 11 (f 52) (f 0) w1 := hF 11 (by kernel_rfl)
                clear hF hO hL
                dsimp only at hK ⊢
                generalize hf53 : f 53 = v53 at *
                generalize hf52 : f 52 = v52 at *
                subst d12
                obtain ⟨A6, c6, rfl, hc6, hs0, hs6⟩ := d11
                have l13' : RwN N w1 w2.heap.size (.slice (some ⟨gR, 0, none⟩) T cv) T ts := l13
                have hmt : mm < ts.length := by rw [HTL.out]; exact hi1
                obtain ⟨Bp, cp, y, hq1, hq2⟩ := l13'.pick hmt (HT256.out _ (List.getElem_mem hmt))
                obtain ⟨hfr, hge, hq3, ys, hoR⟩ := l13'.store (i := mm)
                have hpl : (putL (256) old L).length = 256 := putL_length _ _ _ HO256.out HL256.out (by omega)
                have HR8 := Lib.hid (l13'.set (cd := c6) hi1 hs6 (fun a e => ⟨HFRE.out _ (hs0 a e), by rw [hpl]; exact hc6⟩))
                rw [hpl] at HR8
                have HGE := Lib.hid hge
                have hxg : xb ≠ gR := fun e => by
                  subst e
                  exact own_neV hoR hG.bx (by decide) rfl
                have HG := Lib.hid hG
                clear l13 l13' hq1 hq2 hq3 hmt hs0 hs6 hG hge hoR hpl
                go_simp
                refine hK.out undef _ ⟨HG.out.bel.setCell HGE.out _, HG.out.bx.far hxg _⟩ HR8.out (fun j hj _ h => ldF_set j hj _ _ h) ?_
                intro m2 hm2 h
                unfold ldH at *
                split at h
                · exact absurd rfl hm2
                · trivial
              intro f w6 hG hF
              have g13 : RwN N w6 w2.heap.size (.slice (some ⟨gR, 0, none⟩) T cv) T (ts.set mm (putL (256) old L)) := hF 13 (by decide)
              have HG := Lib.hid hG
              have H13 := Lib.hid g13
              clear hF hG g13
              dsimp only
              generalize f 41 = v41
              generalize f 42 = v42
              generalize f 43 = v43
              generalize f 44 = v44
              generalize f 45 = v45
              generalize f 46 = v46
              generalize f 47 = v47
              generalize f 48 = v48
              generalize f 49 = v49
              generalize f 50 = v50
              generalize f 51 = v51
              generalize f 52 = v52
              generalize f 53 = v53
              go_wp2_with fail
              exact ⟨⟨k + 1, by omega, by go_num, by rw [HT.out, HCS.out]; exact H13.out, HG.out.bel⟩, by simp [intOf]; omega⟩
            · obtain ⟨s, rfl⟩ : ∃ s : Nat, sectors = (s : Int) := ⟨sectors.toNat, by omega⟩
              have HCS := Lib.hid (show crashS keep tear (s : Int) k * 32 = 32 * s by unfold crashS; rw [if_neg hkb, if_pos hte]; omega)
              have hsw : wrap64 (32 * (s : Int)) = 32 * (s : Int) := IntWalk.wrap64_in _ ⟨by omega, by omega⟩
              have hs8 : s ≤ 8 := by omega
              clear hte
              go_wp2_with fail
              clear hbit
              refine wp_region_late [some 41, some 42, some 43, some 44, some 45, some 46, some 47, some 48, some 49, some 50, some 51, some 52, some 53, none] (fun _ => 0) (ldF N w2.heap.size gR T cv xb mm Ad c1 (32*s) (32*(s:Int)) L old ts) (AfG w2 xb #[.int .i64 (mm : Int), .slice Ad 256 c1]) (ldH N w2.heap.size gR T cv ts) (by kernel_rfl) G0.out H0.out rfl (by kernel_rfl) (by kernel_rfl) (by kernel_rfl) (by kernel_rfl) (fun T hT => ?_)
              simp only [List.filterMap_cons, List.filterMap_nil, id, putsS, Act.put, List.setIfInBounds_toArray, List.set_cons_zero, List.set_cons_succ] at hT
              subst hT
              refine ⟨⟨?_, ?_, ?_, ?_, ?_, ?_, ?_, ?_, ?_, ?_, ?_, ?_, ?_, ?_, trivial⟩, ?_⟩
              · -- 0: Op.move t9
                intro f w1 hG hO hL hF K hK
                clear hF hO hL
                dsimp only at hK ⊢
                go_simp
                exact hK.out _ _ hG rfl (fun _ _ _ h => h) (fun _ _ h => h)
              · -- 1: Op.fieldAddr 76 t11 0
                intro f w1 hG hO hL hF K hK
                clear hF hO hL
                dsimp only at hK ⊢
                go_simp
                exact hK.out _ _ hG rfl (fun _ _ _ h => h) (fun _ _ h => h)
              · -- 2: Op.load 3 t42
                intro f w1 hG hO hL hF K hK
                have d1 : (ldF N w2.heap.size gR T cv xb mm Ad c1 (32*s) (32*(s:Int)) L old ts) 1 (f 42) (f 0) w1 := hF 1 (by kernel_rfl)
                clear hF hO hL
                dsimp only at hK ⊢
                generalize hf42 : f 42 = v42 at *
                subst d1
                have y := hG.bx.cell 0
                simp only [List.getElem?_toArray, List.getElem?_cons_zero] at y
                go_simp
                exact hK.out _ _ hG rfl (fun _ _ _ h => h) (fun _ _ h => h)
              · -- 3: Op.move t9
                intro f w1 hG hO hL hF K hK
                clear hF hO hL
                dsimp only at hK ⊢
                go_simp
                exact hK.out _ _ hG rfl (fun _ _ _ h => h) (fun _ _ h => h)
              · -- 4: Op.fieldAddr 76 t11 0
                intro f w1 hG hO hL hF K hK
                clear hF hO hL
                dsimp only at hK ⊢
                go_simp
                exact hK.out _ _ hG rfl (fun _ _ _ h => h) (fun _ _ h => h)
              · -- 5: Op.load 3 t45
                intro f w1 hG hO hL hF K hK
                have d4 : (ldF N w2.heap.size gR T cv xb mm Ad c1 (32*s) (32*(s:Int)) L old ts) 4 (f 45) (f 0) w1 := hF 4 (by kernel_rfl)
                clear hF hO hL
                dsimp only at hK ⊢
                generalize hf45 : f 45 = v45 at *
                subst d4
                have y := hG.bx.cell 0
                simp only [List.getElem?_toArray, List.getElem?_cons_zero] at y
                go_simp
                exact hK.out _ _ hG rfl (fun _ _ _ h => h) (fun _ _ h => h)
              · -- 6: Op.indexAddr 24 t44 t46
                intro f w1 hG hO hL hF K hK
                have d3 : (ldF N w2.heap.size gR T cv xb mm Ad c1 (32*s) (32*(s:Int)) L old ts) 3 (f 44) (f 0) w1 := hF 3 (by kernel_rfl)
                have d5 : (ldF N w2.heap.size gR T cv xb mm Ad c1 (32*s) (32*(s:Int)) L old ts) 5 (f 46) (f 0) w1 := hF 5 (by kernel_rfl)
                clear hF hO hL
                dsimp only at hK ⊢
                generalize hf44 : f 44 = v44 at *
                generalize hf46 : f 46 = v46 at *
                subst d3 d5
                go_simp
                exact hK.out _ _ hG rfl (fun _ _ _ h => h) (fun _ _ h => h)
              · -- 7: Op.load 26 t47
                intro f w1 hG hO hL hF K hK
                have l13 : (ldH N w2.heap.size gR T cv ts) 13 w1 := hL 13 (Nat.le_of_ble_eq_true (by kernel_rfl)) (by kernel_rfl)
                have d6 : (ldF N w2.heap.size gR T cv xb mm Ad c1 (32*s) (32*(s:Int)) L old ts) 6 (f 47) (f 0) w1 := hF 6 (by kernel_rfl)
                clear hF hO hL
                dsimp only at hK ⊢
                generalize hf47 : f 47 = v47 at *
                subst d6
                have l13' : RwN N w1 w2.heap.size (.slice (some ⟨gR, 0, none⟩) T cv) T ts := l13
                have hmt : mm < ts.length := by rw [HTL.out]; exact hi1
                have hto : ts[mm] = old := by have h := HOLD.out; rw [List.getElem?_eq_getElem hmt] at h; exact Option.some.inj h
                obtain ⟨Bp, cp, y, hcp, hsp⟩ := l13'.pick hmt (HT256.out _ (List.getElem_mem hmt))
                rw [hto] at hsp
                have HS := Lib.hid hsp
                clear l13 l13' hmt hto hsp
                go_simp
                exact hK.out _ _ hG ⟨Bp, cp, rfl, hcp, HS.out⟩ (fun _ _ _ h => h) (fun _ _ h => h)
              · -- 8: Op.fieldAddr 76 t11 1
                intro f w1 hG hO hL hF K hK
                clear hF hO hL
                dsimp only at hK ⊢
                go_simp
                exact hK.out _ _ hG rfl (fun _ _ _ h => h) (fun _ _ h => h)
              · -- 9: Op.load 26 t49
                intro f w1 hG hO hL hF K hK
                have d8 : (ldF N w2.heap.size gR T cv xb mm Ad c1 (32*s) (32*(s:Int)) L old ts) 8 (f 49) (f 0) w1 := hF 8 (by kernel_rfl)
                clear hF hO hL
                dsimp only at hK ⊢
                generalize hf49 : f 49 = v49 at *
                subst d8
                have y := hG.bx.cell 1
                simp only [List.getElem?_toArray, List.getElem?_cons_zero, List.getElem?_cons_succ] at y
                go_simp
                exact hK.out _ _ hG rfl (fun _ _ _ h => h) (fun _ _ h => h)
              · -- 10: Op.move t12
                intro f w1 hG hO hL hF K hK
                clear hF hO hL
                dsimp only at hK ⊢
                go_simp
                exact hK.out _ _ hG rfl (fun _ _ _ h => h) (fun _ _ h => h)
              · -- 11: Op.call ( value (Operand.func 70), args := #[t48, t50, t51], argTypes := #[26, 2
                intro f w1 hG hO hL hF K hK
                have l13 : (ldH N w2.heap.size gR T cv ts) 13 w1 := hL 13 (Nat.le_of_ble_eq_true (by kernel_rfl)) (by kernel_rfl)
                have d7 : (ldF N w2.heap.size gR T cv xb mm Ad c1 (32*s) (32*(s:Int)) L old ts) 7 (f 48) (f 0) w1 := hF 7 (by kernel_rfl)
                have d9 : (ldF N w2.heap.size gR T cv xb mm Ad c1 (32*s) (32*(s:Int)) L old ts) 9 (f 50) (f 0) w1 := hF 9 (by kernel_rfl)
                have d10 : (ldF N w2.heap.size gR T cv xb mm Ad c1 (32*s) (32*(s:Int)) L old ts) 10 (f 51) (f 0) w1 := hF 10 (by kernel_rfl)
                clear hF hO hL
                dsimp only at hK ⊢
                generalize hf48 : f 48 = v48 at *
                generalize hf50 : f 50 = v50 at *
                generalize hf51 : f 51 = v51 at *
                obtain ⟨Bp, cp, rfl, hcp, hsp⟩ := d7
                have d9 : v50 = .slice Ad 256 c1 := d9
                have d10 : v51 = .int .i64 (32*(s:Int)) := d10
                subst d9 d10
                have CP := Lib.hid (rput_any Bp Ad cp c1 ((32*s)) old L w1 HO256.out HL256.out (by omega) hcp hc1 hsp.seg (HSD.out.below (Nat.le_refl _) hG.bel))
                rw [show ((((32*s) : Nat)) : Int) = (32*(s:Int)) by omega] at CP
                obtain ⟨_, _, _, ys, hoy⟩ := RwN.store (i := mm) (show RwN N w1 w2.heap.size (.slice (some ⟨gR, 0, none⟩) T cv) T ts from l13)
                have HO := Lib.hid hoy
                clear l13 hsp hoy
                go_simp
                refine CP.out.mono ?_
                rintro e w5 ⟨A6, c6, rfl, hown, hc6, hbel⟩
                exact hK.out _ _ (hG.next hbel) ⟨A6, c6, rfl, hc6, (fun a e => Nat.le_trans hG.bel.size (own_freshJ hown a e)), SegF.own hown (own_belS HO.out hbel)⟩ (fun j _ _ h => ldF_bel hbel j _ _ h) (fun m _ h => ldH_bel hbel m h)
              · -- 12: Op.indexAddr 24 t41 t43
                intro f w1 hG hO hL hF K hK
                have d0 : (ldF N w2.heap.size gR T cv xb mm Ad c1 (32*s) (32*(s:Int)) L old ts) 0 (f 41) (f 0) w1 := hF 0 (by kernel_rfl)
                have d2 : (ldF N w2.heap.size gR T cv xb mm Ad c1 (32*s) (32*(s:Int)) L old ts) 2 (f 43) (f 0) w1 := hF 2 (by kernel_rfl)
                clear hF hO hL
                dsimp only at hK ⊢
                generalize hf41 : f 41 = v41 at *
                generalize hf43 : f 43 = v43 at *
                subst d0 d2
                go_simp
                exact hK.out _ _ hG rfl (fun _ _ _ h => h) (fun _ _ h => h)
              · -- 13: Op.store 26 t53 t52
                intro f w1 hG hO hL hF K hK
                have l13 : (ldH N w2.heap.size gR T cv ts) 13 w1 := hL 13 (Nat.le_of_ble_eq_true (by kernel_rfl)) (by kernel_rfl)
                have d12 : (ldF N w2.heap.size gR T cv xb mm Ad c1 (32*s) (32*(s:Int)) L old ts) 12 (f 53) (f 0) w1 := hF 12 (by kernel_rfl)
                have d11 : (ldF N w2.heap.size gR T cv xb mm Ad c1 (32*s) (32*(s:Int)) L old ts) 11 (f 52) (f 0) w1 := hF 11 (by kernel_rfl)
                clear hF hO hL
                dsimp only at hK ⊢
                generalize hf53 : f 53 = v53 at *
                generalize hf52 : f 52 = v52 at *
                subst d12
                obtain ⟨A6, c6, rfl, hc6, hs0, hs6⟩ := d11
                have l13' : RwN N w1 w2.heap.size (.slice (some ⟨gR, 0, none⟩) T cv) T ts := l13
                have hmt : mm < ts.length := by rw [HTL.out]; exact hi1
                obtain ⟨Bp, cp, y, hq1, hq2⟩ := l13'.pick hmt (HT256.out _ (List.getElem_mem hmt))
                obtain ⟨hfr, hge, hq3, ys, hoR⟩ := l13'.store (i := mm)
                have hpl : (putL ((32*s)) old L).length = 256 := putL_length _ _ _ HO256.out HL256.out (by omega)
                have HR8 := Lib.hid (l13'.set (cd := c6) hi1 hs6 (fun a e => ⟨HFRE.out _ (hs0 a e), by rw [hpl]; exact hc6⟩))
                rw [hpl] at HR8
                have HGE := Lib.hid hge
                have hxg : xb ≠ gR := fun e => by
                  subst e
                  exact own_neV hoR hG.bx (by decide) rfl
                have HG := Lib.hid hG
                clear l13 l13' hq1 hq2 hq3 hmt hs0 hs6 hG hge hoR hpl
                go_simp
                refine hK.out undef _ ⟨HG.out.bel.setCell HGE.out _, HG.out.bx.far hxg _⟩ HR8.out (fun j hj _ h => ldF_set j hj _ _ h) ?_
                intro m2 hm2 h
                unfold ldH at *
                split at h
                · exact absurd rfl hm2
                · trivial
              intro f w6 hG hF
              have g13 : RwN N w6 w2.heap.size (.slice (some ⟨gR, 0, none⟩) T cv) T (ts.set mm (putL ((32*s)) old L)) := hF 13 (by decide)
              have HG := Lib.hid hG
              have H13 := Lib.hid g13
              clear hF hG g13
              dsimp only
              generalize f 41 = v41
              generalize f 42 = v42
              generalize f 43 = v43
              generalize f 44 = v44
              generalize f 45 = v45
              generalize f 46 = v46
              generalize f 47 = v47
              generalize f 48 = v48
              generalize f 49 = v49
              generalize f 50 = v50
              generalize f 51 = v51
              generalize f 52 = v52
              generalize f 53 = v53
              go_wp2_with fail
              exact ⟨⟨k + 1, by omega, by go_num, by rw [HT.out, HCS.out]; exact H13.out, HG.out.bel⟩, by simp [intOf]; omega⟩
          · have HCS := Lib.hid (show crashS keep tear sectors k * 32 = 0 by unfold crashS; rw [if_neg hkb, if_pos hte]; omega)
            clear hte
            go_wp2_with fail
            clear hbit
            refine wp_region_late [some 41, some 42, some 43, some 44, some 45, some 46, some 47, some 48, some 49, some 50, some 51, some 52, some 53, none] (fun _ => 0) (ldF N w2.heap.size gR T cv xb mm Ad c1 0 0 L old ts) (AfG w2 xb #[.int .i64 (mm : Int), .slice Ad 256 c1]) (ldH N w2.heap.size gR T cv ts) (by kernel_rfl) G0.out H0.out rfl (by kernel_rfl) (by kernel_rfl) (by kernel_rfl) (by kernel_rfl) (fun T hT => ?_)
            simp only [List.filterMap_cons, List.filterMap_nil, id, putsS, Act.put, List.setIfInBounds_toArray, List.set_cons_zero, List.set_cons_succ] at hT
            subst hT
            refine ⟨⟨?_, ?_, ?_, ?_, ?_, ?_, ?_, ?_, ?_, ?_, ?_, ?_, ?_, ?_, trivial⟩, ?_⟩
            · -- 0: Op.move t9
              intro f w1 hG hO hL hF K hK
              clear hF hO hL
              dsimp only at hK ⊢
              go_simp
              exact hK.out _ _ hG rfl (fun _ _ _ h => h) (fun _ _ h => h)
            · -- 1: Op.fieldAddr 76 t11 0
              intro f w1 hG hO hL hF K hK
              clear hF hO hL
              dsimp only at hK ⊢
              go_simp
              exact hK.out _ _ hG rfl (fun _ _ _ h => h) (fun _ _ h => h)
            · -- 2: Op.load 3 t42
              intro f w1 hG hO hL hF K hK
              have d1 : (ldF N w2.heap.size gR T cv xb mm Ad c1 0 0 L old ts) 1 (f 42) (f 0) w1 := hF 1 (by kernel_rfl)
              clear hF hO hL
              dsimp only at hK ⊢
              generalize hf42 : f 42 = v42 at *
              subst d1
              have y := hG.bx.cell 0
              simp only [List.getElem?_toArray, List.getElem?_cons_zero] at y
              go_simp
              exact hK.out _ _ hG rfl (fun _ _ _ h => h) (fun _ _ h => h)
            · -- 3: Op.move t9
              intro f w1 hG hO hL hF K hK
              clear hF hO hL
              dsimp only at hK ⊢
              go_simp
              exact hK.out _ _ hG rfl (fun _ _ _ h => h) (fun _ _ h => h)
            · -- 4: Op.fieldAddr 76 t11 0
              intro f w1 hG hO hL hF K hK
              clear hF hO hL
              dsimp only at hK ⊢
              go_simp
              exact hK.out _ _ hG rfl (fun _ _ _ h => h) (fun _ _ h => h)
            · -- 5: Op.load 3 t45
              intro f w1 hG hO hL hF K hK
              have d4 : (ldF N w2.heap.size gR T cv xb mm Ad c1 0 0 L old ts) 4 (f 45) (f 0) w1 := hF 4 (by kernel_rfl)
              clear hF hO hL
              dsimp only at hK ⊢
              generalize hf45 : f 45 = v45 at *
              subst d4
              have y := hG.bx.cell 0
              simp only [List.getElem?_toArray, List.getElem?_cons_zero] at y
              go_simp
              exact hK.out _ _ hG rfl (fun _ _ _ h => h) (fun _ _ h => h)
            · -- 6: Op.indexAddr 24 t44 t46
              intro f w1 hG hO hL hF K hK
              have d3 : (ldF N w2.heap.size gR T cv xb mm Ad c1 0 0 L old ts) 3 (f 44) (f 0) w1 := hF 3 (by kernel_rfl)
              have d5 : (ldF N w2.heap.size gR T cv xb mm Ad c1 0 0 L old ts) 5 (f 46) (f 0) w1 := hF 5 (by kernel_rfl)
              clear hF hO hL
              dsimp only at hK ⊢
              generalize hf44 : f 44 = v44 at *
              generalize hf46 : f 46 = v46 at *
              subst d3 d5
              go_simp
              exact hK.out _ _ hG rfl (fun _ _ _ h => h) (fun _ _ h => h)
            · -- 7: Op.load 26 t47
              intro f w1 hG hO hL hF K hK
              have l13 : (ldH N w2.heap.size gR T cv ts) 13 w1 := hL 13 (Nat.le_of_ble_eq_true (by kernel_rfl)) (by kernel_rfl)
              have d6 : (ldF N w2.heap.size gR T cv xb mm Ad c1 0 0 L old ts) 6 (f 47) (f 0) w1 := hF 6 (by kernel_rfl)
              clear hF hO hL
              dsimp only at hK ⊢
              generalize hf47 : f 47 = v47 at *
              subst d6
              have l13' : RwN N w1 w2.heap.size (.slice (some ⟨gR, 0, none⟩) T cv) T ts := l13
              have hmt : mm < ts.length := by rw [HTL.out]; exact hi1
              have hto : ts[mm] = old := by have h := HOLD.out; rw [List.getElem?_eq_getElem hmt] at h; exact Option.some.inj h
              obtain ⟨Bp, cp, y, hcp, hsp⟩ := l13'.pick hmt (HT256.out _ (List.getElem_mem hmt))
              rw [hto] at hsp
              have HS := Lib.hid hsp
              clear l13 l13' hmt hto hsp
              go_simp
              exact hK.out _ _ hG ⟨Bp, cp, rfl, hcp, HS.out⟩ (fun _ _ _ h => h) (fun _ _ h => h)
            · -- 8: Op.fieldAddr 76 t11 1
              intro f w1 hG hO hL hF K hK
              clear hF hO hL
              dsimp only at hK ⊢
              go_simp
              exact hK.out _ _ hG rfl (fun _ _ _ h => h) (fun _ _ h => h)
            · -- 9: Op.load 26 t49
              intro f w1 hG hO hL hF K hK
              have d8 : (ldF N w2.heap.size gR T cv xb mm Ad c1 0 0 L old ts) 8 (f 49) (f 0) w1 := hF 8 (by kernel_rfl)
              clear hF hO hL
              dsimp only at hK ⊢
              generalize hf49 : f 49 = v49 at *
              subst d8
              have y := hG.bx.cell 1
              simp only [List.getElem?_toArray, List.getElem?_cons_zero, List.getElem?_cons_succ] at y
              go_simp
              exact hK.out _ _ hG rfl (fun _ _ _ h => h) (fun _ _ h => h)
            · -- 10: Op.move t12
              intro f w1 hG hO hL hF K hK
              clear hF hO hL
              dsimp only at hK ⊢
              go_simp
              exact hK.out _ _ hG rfl (fun _ _ _ h => h) (fun _ _ h => h)
            · -- 11: Op.call ( value (Operand.func 70), args := #[t48, t50, t51], argTypes := #[26, 2
              intro f w1 hG hO hL hF K hK
              have l13 : (ldH N w2.heap.size gR T cv ts) 13 w1 := hL 13 (Nat.le_of_ble_eq_true (by kernel_rfl)) (by kernel_rfl)
              have d7 : (ldF N w2.heap.size gR T cv xb mm Ad c1 0 0 L old ts) 7 (f 48) (f 0) w1 := hF 7 (by kernel_rfl)
              have d9 : (ldF N w2.heap.size gR T cv xb mm Ad c1 0 0 L old ts) 9 (f 50) (f 0) w1 := hF 9 (by kernel_rfl)
              have d10 : (ldF N w2.heap.size gR T cv xb mm Ad c1 0 0 L old ts) 10 (f 51) (f 0) w1 := hF 10 (by kernel_rfl)
              clear hF hO hL
              dsimp only at hK ⊢
              generalize hf48 : f 48 = v48 at *
              generalize hf50 : f 50 = v50 at *
              generalize hf51 : f 51 = v51 at *
              obtain ⟨Bp, cp, rfl, hcp, hsp⟩ := d7
              have d9 : v50 = .slice Ad 256 c1 := d9
              have d10 : v51 = .int .i64 0 := d10
              subst d9 d10
              have CP := Lib.hid (rput_any Bp Ad cp c1 (0) old L w1 HO256.out HL256.out (by omega) hcp hc1 hsp.seg (HSD.out.below (Nat.le_refl _) hG.bel))
              rw [show (((0 : Nat)) : Int) = 0 by omega] at CP
              obtain ⟨_, _, _, ys, hoy⟩ := RwN.store (i := mm) (show RwN N w1 w2.heap.size (.slice (some ⟨gR, 0, none⟩) T cv) T ts from l13)
              have HO := Lib.hid hoy
              clear l13 hsp hoy
              go_simp
              refine CP.out.mono ?_
              rintro e w5 ⟨A6, c6, rfl, hown, hc6, hbel⟩
              exact hK.out _ _ (hG.next hbel) ⟨A6, c6, rfl, hc6, (fun a e => Nat.le_trans hG.bel.size (own_freshJ hown a e)), SegF.own hown (own_belS HO.out hbel)⟩ (fun j _ _ h => ldF_bel hbel j _ _ h) (fun m _ h => ldH_bel hbel m h)
            · -- 12: Op.indexAddr 24 t41 t43
              intro f w1 hG hO hL hF K hK
              have d0 : (ldF N w2.heap.size gR T cv xb mm Ad c1 0 0 L old ts) 0 (f 41) (f 0) w1 := hF 0 (by kernel_rfl)
              have d2 : (ldF N w2.heap.size gR T cv xb mm Ad c1 0 0 L old ts) 2 (f 43) (f 0) w1 := hF 2 (by kernel_rfl)
              clear hF hO hL
              dsimp only at hK ⊢
              generalize hf41 : f 41 = v41 at *
              generalize hf43 : f 43 = v43 at *
              subst d0 d2
              go_simp
              exact hK.out _ _ hG rfl (fun _ _ _ h => h) (fun _ _ h => h)
            · -- 13: Op.store 26 t53 t52
              intro f w1 hG hO hL hF K hK
              have l13 : (ldH N w2.heap.size gR T cv ts) 13 w1 := hL 13 (Nat.le_of_ble_eq_true (by kernel_rfl)) (by kernel_rfl)
              have d12 : (ldF N w2.heap.size gR T cv xb mm Ad c1 0 0 L old ts) 12 (f 53) (f 0) w1 := hF 12 (by kernel_rfl)
              have d11 : (ldF N w2.heap.size gR T cv xb mm Ad c1 0 0 L old ts) 11 (f 52) (f 0) w1 := hF 11 (by kernel_rfl)
              clear hF hO hL
              dsimp only at hK ⊢
              generalize hf53 : f 53 = v53 at *
              generalize hf52 : f 52 = v52 at *
              subst d12
              obtain ⟨A6, c6, rfl, hc6, hs0, hs6⟩ := d11
              have l13' : RwN N w1 w2.heap.size (.slice (some ⟨gR, 0, none⟩) T cv) T ts := l13
              have hmt : mm < ts.length := by rw [HTL.out]; exact hi1
              obtain ⟨Bp, cp, y, hq1, hq2⟩ := l13'.pick hmt (HT256.out _ (List.getElem_mem hmt))
              obtain ⟨hfr, hge, hq3, ys, hoR⟩ := l13'.store (i := mm)
              have hpl : (putL (0) old L).length = 256 := putL_length _ _ _ HO256.out HL256.out (by omega)
              have HR8 := Lib.hid (l13'.set (cd := c6) hi1 hs6 (fun a e => ⟨HFRE.out _ (hs0 a e), by rw [hpl]; exact hc6⟩))
              rw [hpl] at HR8
              have HGE := Lib.hid hge
              have hxg : xb ≠ gR := fun e => by
                subst e
                exact own_neV hoR hG.bx (by decide) rfl
              have HG := Lib.hid hG
              clear l13 l13' hq1 hq2 hq3 hmt hs0 hs6 hG hge hoR hpl
              go_simp
              refine hK.out undef _ ⟨HG.out.bel.setCell HGE.out _, HG.out.bx.far hxg _⟩ HR8.out (fun j hj _ h => ldF_set j hj _ _ h) ?_
              intro m2 hm2 h
              unfold ldH at *
              split at h
              · exact absurd rfl hm2
              · trivial
            intro f w6 hG hF
            have g13 : RwN N w6 w2.heap.size (.slice (some ⟨gR, 0, none⟩) T cv) T (ts.set mm (putL (0) old L)) := hF 13 (by decide)
            have HG := Lib.hid hG
            have H13 := Lib.hid g13
            clear hF hG g13
            dsimp only
            generalize f 41 = v41
            generalize f 42 = v42
            generalize f 43 = v43
            generalize f 44 = v44
            generalize f 45 = v45
            generalize f 46 = v46
            generalize f 47 = v47
            generalize f 48 = v48
            generalize f 49 = v49
            generalize f 50 = v50
            generalize f 51 = v51
            generalize f 52 = v52
            generalize f 53 = v53
            go_wp2_with fail
            exact ⟨⟨k + 1, by omega, by go_num, by rw [HT.out, HCS.out]; exact H13.out, HG.out.bel⟩, by simp [intOf]; omega⟩
        · have hteb : ((k : Int) == tear) = false := by simpa using hte
          have HCS := Lib.hid (show crashS keep tear sectors k * 32 = 0 by unfold crashS; rw [if_neg hkb, if_neg hte])
          clear hte
          go_wp2_with fail
          clear hbit
          refine wp_region_late [some 41, some 42, some 43, some 44, some 45, some 46, some 47, some 48, some 49, some 50, some 51, some 52, some 53, none] (fun _ => 0) (ldF N w2.heap.size gR T cv xb mm Ad c1 0 0 L old ts) (AfG w2 xb #[.int .i64 (mm : Int), .slice Ad 256 c1]) (ldH N w2.heap.size gR T cv ts) (by kernel_rfl) G0.out H0.out rfl (by kernel_rfl) (by kernel_rfl) (by kernel_rfl) (by kernel_rfl) (fun T hT => ?_)
          simp only [List.filterMap_cons, List.filterMap_nil, id, putsS, Act.put, List.setIfInBounds_toArray, List.set_cons_zero, List.set_cons_succ] at hT
          subst hT
          refine ⟨⟨?_, ?_, ?_, ?_, ?_, ?_, ?_, ?_, ?_, ?_, ?_, ?_, ?_, ?_, trivial⟩, ?_⟩
          · -- 0: Op.move t9
            intro f w1 hG hO hL hF K hK
            clear hF hO hL
            dsimp only at hK ⊢
            go_simp
            exact hK.out _ _ hG rfl (fun _ _ _ h => h) (fun _ _ h => h)
          · -- 1: Op.fieldAddr 76 t11 0
            intro f w1 hG hO hL hF K hK
            clear hF hO hL
            dsimp only at hK ⊢
            go_simp
            exact hK.out _ _ hG rfl (fun _ _ _ h => h) (fun _ _ h => h)
          · -- 2: Op.load 3 t42
            intro f w1 hG hO hL hF K hK
            have d1 : (ldF N w2.heap.size gR T cv xb mm Ad c1 0 0 L old ts) 1 (f 42) (f 0) w1 := hF 1 (by kernel_rfl)
            clear hF hO hL
            dsimp only at hK ⊢
            generalize hf42 : f 42 = v42 at *
            subst d1
            have y := hG.bx.cell 0
            simp only [List.getElem?_toArray, List.getElem?_cons_zero] at y
            go_simp
            exact hK.out _ _ hG rfl (fun _ _ _ h => h) (fun _ _ h => h)
          · -- 3: Op.move t9
            intro f w1 hG hO hL hF K hK
            clear hF hO hL
            dsimp only at hK ⊢
            go_simp
            exact hK.out _ _ hG rfl (fun _ _ _ h => h) (fun _ _ h => h)
          · -- 4: Op.fieldAddr 76 t11 0
            intro f w1 hG hO hL hF K hK
            clear hF hO hL
            dsimp only at hK ⊢
            go_simp
            exact hK.out _ _ hG rfl (fun _ _ _ h => h) (fun _ _ h => h)
          · -- 5: Op.load 3 t45
            intro f w1 hG hO hL hF K hK
            have d4 : (ldF N w2.heap.size gR T cv xb mm Ad c1 0 0 L old ts) 4 (f 45) (f 0) w1 := hF 4 (by kernel_rfl)
            clear hF hO hL
            dsimp only at hK ⊢
            generalize hf45 : f 45 = v45 at *
            subst d4
            have y := hG.bx.cell 0
            simp only [List.getElem?_toArray, List.getElem?_cons_zero] at y
            go_simp
            exact hK.out _ _ hG rfl (fun _ _ _ h => h) (fun _ _ h => h)
          · -- 6: Op.indexAddr 24 t44 t46
            intro f w1 hG hO hL hF K hK
            have d3 : (ldF N w2.heap.size gR T cv xb mm Ad c1 0 0 L old ts) 3 (f 44) (f 0) w1 := hF 3 (by kernel_rfl)
            have d5 : (ldF N w2.heap.size gR T cv xb mm Ad c1 0 0 L old ts) 5 (f 46) (f 0) w1 := hF 5 (by kernel_rfl)
            clear hF hO hL
            dsimp only at hK ⊢
            generalize hf44 : f 44 = v44 at *
            generalize hf46 : f 46 = v46 at *
            subst d3 d5
            go_simp
            exact hK.out _ _ hG rfl (fun _ _ _ h => h) (fun _ _ h => h)
          · -- 7: Op.load 26 t47
            intro f w1 hG hO hL hF K hK
            have l13 : (ldH N w2.heap.size gR T cv ts) 13 w1 := hL 13 (Nat.le_of_ble_eq_true (by kernel_rfl)) (by kernel_rfl)
            have d6 : (ldF N w2.heap.size gR T cv xb mm Ad c1 0 0 L old ts) 6 (f 47) (f 0) w1 := hF 6 (by kernel_rfl)
            clear hF hO hL
            dsimp only at hK ⊢
            generalize hf47 : f 47 = v47 at *
            subst d6
            have l13' : RwN N w1 w2.heap.size (.slice (some ⟨gR, 0, none⟩) T cv) T ts := l13
            have hmt : mm < ts.length := by rw [HTL.out]; exact hi1
            have hto : ts[mm] = old := by have h := HOLD.out; rw [List.getElem?_eq_getElem hmt] at h; exact Option.some.inj h
            obtain ⟨Bp, cp, y, hcp, hsp⟩ := l13'.pick hmt (HT256.out _ (List.getElem_mem hmt))
            rw [hto] at hsp
            have HS := Lib.hid hsp
            clear l13 l13' hmt hto hsp
            go_simp
            exact hK.out _ _ hG ⟨Bp, cp, rfl, hcp, HS.out⟩ (fun _ _ _ h => h) (fun _ _ h => h)
          · -- 8: Op.fieldAddr 76 t11 1
            intro f w1 hG hO hL hF K hK
            clear hF hO hL
            dsimp only at hK ⊢
            go_simp
            exact hK.out _ _ hG rfl (fun _ _ _ h => h) (fun _ _ h => h)
          · -- 9: Op.load 26 t49
            intro f w1 hG hO hL hF K hK
            have d8 : (ldF N w2.heap.size gR T cv xb mm Ad c1 0 0 L old ts) 8 (f 49) (f 0) w1 := hF 8 (by kernel_rfl)
            clear hF hO hL
            dsimp only at hK ⊢
            generalize hf49 : f 49 = v49 at *
            subst d8
            have y := hG.bx.cell 1
            simp only [List.getElem?_toArray, List.getElem?_cons_zero, List.getElem?_cons_succ] at y
            go_simp
            exact hK.out _ _ hG rfl (fun _ _ _ h => h) (fun _ _ h => h)
          · -- 10: Op.move t12
            intro f w1 hG hO hL hF K hK
            clear hF hO hL
            dsimp only at hK ⊢
            go_simp
            exact hK.out _ _ hG rfl (fun _ _ _ h => h) (fun _ _ h => h)
          · -- 11: Op.call ( value (Operand.func 70), args := #[t48, t50, t51], argTypes := #[26, 2
            intro f w1 hG hO hL hF K hK
            have l13 : (ldH N w2.heap.size gR T cv ts) 13 w1 := hL 13 (Nat.le_of_ble_eq_true (by kernel_rfl)) (by kernel_rfl)
            have d7 : (ldF N w2.heap.size gR T cv xb mm Ad c1 0 0 L old ts) 7 (f 48) (f 0) w1 := hF 7 (by kernel_rfl)
            have d9 : (ldF N w2.heap.size gR T cv xb mm Ad c1 0 0 L old ts) 9 (f 50) (f 0) w1 := hF 9 (by kernel_rfl)
            have d10 : (ldF N w2.heap.size gR T cv xb mm Ad c1 0 0 L old ts) 10 (f 51) (f 0) w1 := hF 10 (by kernel_rfl)
            clear hF hO hL
            dsimp only at hK ⊢
            generalize hf48 : f 48 = v48 at *
            generalize hf50 : f 50 = v50 at *
            generalize hf51 : f 51 = v51 at *
            obtain ⟨Bp, cp, rfl, hcp, hsp⟩ := d7
            have d9 : v50 = .slice Ad 256 c1 := d9
            have d10 : v51 = .int .i64 0 := d10
            subst d9 d10
            have CP := Lib.hid (rput_any Bp Ad cp c1 (0) old L w1 HO256.out HL256.out (by omega) hcp hc1 hsp.seg (HSD.out.below (Nat.le_refl _) hG.bel))
            rw [show (((0 : Nat)) : Int) = 0 by omega] at CP
            obtain ⟨_, _, _, ys, hoy⟩ := RwN.store (i := mm) (show RwN N w1 w2.heap.size (.slice (some ⟨gR, 0, none⟩) T cv) T ts from l13)
            have HO := Lib.hid hoy
            clear l13 hsp hoy
            go_simp
            refine CP.out.mono ?_
            rintro e w5 ⟨A6, c6, rfl, hown, hc6, hbel⟩
            exact hK.out _ _ (hG.next hbel) ⟨A6, c6, rfl, hc6, (fun a e => Nat.le_trans hG.bel.size (own_freshJ hown a e)), SegF.own hown (own_belS HO.out hbel)⟩ (fun j _ _ h => ldF_bel hbel j _ _ h) (fun m _ h => ldH_bel hbel m h)
          · -- 12: Op.indexAddr 24 t41 t43
            intro f w1 hG hO hL hF K hK
            have d0 : (ldF N w2.heap.size gR T cv xb mm Ad c1 0 0 L old ts) 0 (f 41) (f 0) w1 := hF 0 (by kernel_rfl)
            have d2 : (ldF N w2.heap.size gR T cv xb mm Ad c1 0 0 L old ts) 2 (f 43) (f 0) w1 := hF 2 (by kernel_rfl)
            clear hF hO hL
            dsimp only at hK ⊢
            generalize hf41 : f 41 = v41 at *
            generalize hf43 : f 43 = v43 at *
            subst d0 d2
            go_simp
            exact hK.out _ _ hG rfl (fun _ _ _ h => h) (fun _ _ h => h)
          · -- 13: Op.store 26 t53 t52
            intro f w1 hG hO hL hF K hK
            have l13 : (ldH N w2.heap.size gR T cv ts) 13 w1 := hL 13 (Nat.le_of_ble_eq_true (by kernel_rfl)) (by kernel_rfl)
            have d12 : (ldF N w2.heap.size gR T cv xb mm Ad c1 0 0 L old ts) 12 (f 53) (f 0) w1 := hF 12 (by kernel_rfl)
            have d11 : (ldF N w2.heap.size gR T cv xb mm Ad c1 0 0 L old ts) 11 (f 52) (f 0) w1 := hF 11 (by kernel_rfl)
            clear hF hO hL
            dsimp only at hK ⊢
            generalize hf53 : f 53 = v53 at *
            generalize hf52 : f 52 = v52 at *
            subst d12
            obtain ⟨A6, c6, rfl, hc6, hs0, hs6⟩ := d11
            have l13' : RwN N w1 w2.heap.size (.slice (some ⟨gR, 0, none⟩) T cv) T ts := l13
            have hmt : mm < ts.length := by rw [HTL.out]; exact hi1
            obtain ⟨Bp, cp, y, hq1, hq2⟩ := l13'.pick hmt (HT256.out _ (List.getElem_mem hmt))
            obtain ⟨hfr, hge, hq3, ys, hoR⟩ := l13'.store (i := mm)
            have hpl : (putL (0) old L).length = 256 := putL_length _ _ _ HO256.out HL256.out (by omega)
            have HR8 := Lib.hid (l13'.set (cd := c6) hi1 hs6 (fun a e => ⟨HFRE.out _ (hs0 a e), by rw [hpl]; exact hc6⟩))
            rw [hpl] at HR8
            have HGE := Lib.hid hge
            have hxg : xb ≠ gR := fun e => by
              subst e
              exact own_neV hoR hG.bx (by decide) rfl
            have HG := Lib.hid hG
            clear l13 l13' hq1 hq2 hq3 hmt hs0 hs6 hG hge hoR hpl
            go_simp
            refine hK.out undef _ ⟨HG.out.bel.setCell HGE.out _, HG.out.bx.far hxg _⟩ HR8.out (fun j hj _ h => ldF_set j hj _ _ h) ?_
            intro m2 hm2 h
            unfold ldH at *
            split at h
            · exact absurd rfl hm2
            · trivial
          intro f w6 hG hF
          have g13 : RwN N w6 w2.heap.size (.slice (some ⟨gR, 0, none⟩) T cv) T (ts.set mm (putL (0) old L)) := hF 13 (by decide)
          have HG := Lib.hid hG
          have H13 := Lib.hid g13
          clear hF hG g13
          dsimp only
          generalize f 41 = v41
          generalize f 42 = v42
          generalize f 43 = v43
          generalize f 44 = v44
          generalize f 45 = v45
          generalize f 46 = v46
          generalize f 47 = v47
          generalize f 48 = v48
          generalize f 49 = v49
          generalize f 50 = v50
          generalize f 51 = v51
          generalize f 52 = v52
          generalize f 53 = v53
          go_wp2_with fail
          exact ⟨⟨k + 1, by omega, by go_num, by rw [HT.out, HCS.out]; exact H13.out, HG.out.bel⟩, by simp [intOf]; omega⟩
    · obtain rfl : k = m := by omega
      have hkk : ¬ (k : Int) < (k : Int) := by omega
      have y2 := (HX4.out.bel hb).cell 2
      simp only [HC4.out, List.getElem?_toArray, List.getElem?_cons_zero, List.getElem?_cons_succ] at y2
      have HY := Lib.hid (HX8.out.bel hb)
      have z0 := HY.out.cell 0
      have z1 := HY.out.cell 1
      have z2 := HY.out.cell 2
      simp only [ResC, List.getElem?_toArray, List.getElem?_cons_zero, List.getElem?_cons_succ] at z0 z1 z2
      have f0 := HY.out.frozen 0
      have f1 := HY.out.frozen 1
      have f2 := HY.out.frozen 2
      have ho0 := hR.2.choose_spec.1
      have hg8 : w.heap.size ≤ w.heap.size + 1 := Nat.le_succ _
      have BF := Lib.hid ((((HB2.out.trans (hb.mono HB2.out.size)).setCell (p := ⟨w.heap.size + 1, 0, none⟩) hg8 (.slice Av T cv)).setCell (p := ⟨w.heap.size + 1, 1, none⟩) hg8 (.slice none 0 0)).setCell (p := ⟨w.heap.size + 1, 2, none⟩) hg8 (.int .i64 left))
      have RF := Lib.hid (((hR.off (i := 0) (u := .slice Av T cv) HY.out (no3 (nos _ _ _) (nos _ _ _) (noi _)) (own_neV ho0 HY.out (by decide))).off (i := 1) (u := .slice none 0 0) (HY.out.put 0 (.slice Av T cv)) (no3 (nos _ _ _) (nos _ _ _) (noi _)) (own_neV ho0 HY.out (by decide))).off (i := 2) (u := .int .i64 left) ((HY.out.put 0 (.slice Av T cv)).put 1 (.slice none 0 0)) (no3 (nos _ _ _) (nos _ _ _) (noi _)) (own_neV ho0 HY.out (by decide)) |>.rs HFRE.out |>.1)
      have YF := Lib.hid (((HY.out.put 0 (.slice Av T cv)).put 1 (.slice none 0 0)).put 2 (.int .i64 left))
      clear ho0 hR hb
      go_wp2_with fail
      generalize ((wr.setCell { block := w.heap.size + 1, off := 0 } (Value.slice Av T cv)).setCell { block := w.heap.size + 1, off := 1 } (Value.slice none 0 0)).setCell { block := w.heap.size + 1, off := 2 } (Value.int IntKind.i64 left) = wf at *
      have z0 : wf.cell? ⟨w.heap.size + 1, 0, none⟩ = some (.slice Av T cv) := by rw [YF.out.cell 0]; rfl
      have z1 : wf.cell? ⟨w.heap.size + 1, 1, none⟩ = some (.slice none 0 0) := by rw [YF.out.cell 1]; rfl
      have z2 : wf.cell? ⟨w.heap.size + 1, 2, none⟩ = some (.int .i64 left) := by rw [YF.out.cell 2]; rfl
      exact bodyPost_ret (v := .agg #[.slice Av T cv, .slice none 0 0, .int .i64 left]) (by simp [results, Try.results48, go_sem, z0, z1, z2]) rfl ⟨Av, ⟨cv, rfl⟩, RF.out, BF.out⟩
end Go.Proofs.Ytmgbmnbjionapaa
