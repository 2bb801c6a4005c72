/- The blocks behind a commit, by the reference. Condition: the rows and the blocks lie in memory. -/
import Derived.Test.YtmgbmnbjionapaaJNew3
import Derived.Test.YtmgbmnbjionapaaEmpty
namespace Go.Proofs.Ytmgbmnbjionapaa
open Go.RowKit

def afterN (rows : List (List Nat)) (ws : List (Nat × List Nat)) : List (List Nat) := ws.foldl (fun r x => r.set x.1 x.2) rows
theorem afterN_length : ∀ (ws : List (Nat × List Nat)) (rows : List (List Nat)), (afterN rows ws).length = rows.length
  | [], _ => rfl
  | x :: ws, rows => by
    show (afterN (rows.set x.1 x.2) ws).length = _
    rw [afterN_length ws, List.length_set]
theorem afterN_at : ∀ (ws : List (Nat × List Nat)) (rows : List (List Nat)) (i : Nat) (hi : i < rows.length), (afterN rows ws)[i]? = some (lastD ws i (rows[i]))
  | [], rows, i, hi => List.getElem?_eq_getElem hi
  | x :: ws, rows, i, hi => by
    show (afterN (rows.set x.1 x.2) ws)[i]? = some (lastD ws i (if i = x.1 then x.2 else rows[i]))
    rw [afterN_at ws (rows.set x.1 x.2) i (by rw [List.length_set]; exact hi), List.getElem_set]
    by_cases h : x.1 = i
    · rw [if_pos h, if_pos h.symm]
    · rw [if_neg h, if_neg (fun e => h e.symm)]
theorem afterN_snoc (rows : List (List Nat)) (ws : List (Nat × List Nat)) (x : Nat × List Nat) : afterN rows (ws ++ [x]) = (afterN rows ws).set x.1 x.2 := by
  unfold afterN
  rw [List.foldl_append]; rfl
theorem SegF.own {w : World} {base base2 n m c : Nat} {V : Value} {A : Option Addr} {xs ys : List Value} (h : w.ownsRow base 5 1 (.slice A m c) m xs) (hV : w.ownsRow base2 26 1 V n ys) : SegF w V A xs := fun hn => by
  obtain ⟨b, off, h1, h2, h3⟩ := Seg.of_own h hn
  refine ⟨b, off, h1, h2, fun e => ?_, h3⟩
  rcases h.2 with ⟨hv, _⟩ | ⟨g, cap, cur, hv, _, hg, _⟩
  · injection hv with h4; rw [h1] at h4; cases h4
  · injection hv with h4
    rw [h1] at h4
    injection h4 with h4
    injection h4 with h4
    subst h4
    exact own_neV hV (show Bk w b 5 cur from hg) (by decide) e
theorem SegF.far {w : World} {g n c i : Nat} {A : Option Addr} {xs : List Value} {u : Value} (h : SegF w (.slice (some ⟨g, 0, none⟩) n c) A xs) : SegF (w.setCell ⟨g, i, none⟩ u) (.slice (some ⟨g, 0, none⟩) n c) A xs := fun hn => by
  obtain ⟨b, off, h1, h2, h3, h4⟩ := h hn
  have hbg : b ≠ g := fun e => h3 (by subst e; rfl)
  refine ⟨b, off, h1, by simpa using h2, h3, fun k hk => ?_⟩
  rw [World.cell?_of_block (Below.heap_setCell w ⟨g, i, none⟩ u b hbg)]
  exact h4 k hk
theorem own_set {w : World} {base g n c i : Nat} {e : TypeId} {xs : List Value} {u : Value} (h : w.ownsRow base e 1 (.slice (some ⟨g, 0, none⟩) n c) n xs) (_hi : i < n) : (w.setCell ⟨g, i, none⟩ u).ownsRow base e 1 (.slice (some ⟨g, 0, none⟩) n c) n (xs.set i u) := by
  refine ⟨by rw [List.length_set]; exact h.1, ?_⟩
  rcases h.2 with ⟨hv, _⟩ | ⟨g', cap, cur, hv, hb, hg, hnc, hcm, hs, htk⟩
  · cases hv
  · injection hv with e1 _ e3
    injection e1 with e1
    injection e1 with e1
    subst e1
    subst e3
    have hp := Bk.put (show Bk w g e cur from hg) i u
    refine .inr ⟨g, c, cur.setIfInBounds i u, rfl, hb, hp, hnc, hcm, by simpa using hs, ?_⟩
    rw [Nat.mul_one] at htk ⊢
    rw [Array.toList_setIfInBounds, List.take_set, htk]
theorem RwN.set {N : Nat → Prop} {w : World} {base g n c m cd : Nat} {A : Option Addr} {ts : List (List Nat)} {L : List Nat} (h : RwN N w base (.slice (some ⟨g, 0, none⟩) n c) n ts) (hm : m < n) (hs : SegF w (.slice (some ⟨g, 0, none⟩) n c) A (u8s L)) (hA : ∀ a, A = some a → N a.block) : RwN N (w.setCell ⟨g, m, none⟩ (.slice A L.length cd)) base (.slice (some ⟨g, 0, none⟩) n c) n (ts.set m L) := by
  obtain ⟨hk, xs, h1, h2, h3⟩ := h
  refine ⟨by rw [List.length_set]; exact hk, _, own_set h1 hm, fun i hi => ?_, fun i a n2 c2 hi => ?_⟩
  rotate_left
  · by_cases e : m = i
    · subst e
      rw [List.getElem?_set] at hi
      rw [if_pos rfl] at hi
      split at hi
      · injection hi with hi
        injection hi with hi
        exact hA a hi
      · cases hi
    · rw [List.getElem?_set_ne e] at hi
      exact h3 i a n2 c2 hi
  rw [List.length_set] at hi
  have hxl : xs.length = n := by have := h1.1; omega
  by_cases e : m = i
  · subst e
    rw [List.getElem_set_self]
    exact ⟨A, cd, by rw [List.getElem?_set_self (by omega)], hs.far⟩
  · obtain ⟨B, c2, a1, a2⟩ := h2 i hi
    rw [List.getElem_set_ne e]
    exact ⟨B, c2, by rw [List.getElem?_set_ne e]; exact a1, a2.far⟩
structure AfG (w0 : World) (xb : Nat) (XB : Array Value) (w : World) : Prop where
  bel : Below w0.heap.size w0 w
  bx : Bk w xb 76 XB
theorem AfG.next {w0 w w' : World} {xb : Nat} {XB : Array Value} (h : AfG w0 xb XB w) (hb : Below w.heap.size w w') : AfG w0 xb XB w' := ⟨below_step h.bel hb, h.bx.bel hb⟩
def afF (N : Nat → Prop) (B gR n cap xb m : Nat) (Ad : Option Addr) (c1 : Nat) (L : List Nat) (ts : List (List Nat)) (j : Nat) (v _u : Value) (w : World) : Prop := match j with
  | 0 => v = .slice (some ⟨gR, 0, none⟩) n cap
  | 1 => v = .pointer (some ⟨xb, 0, none⟩)
  | 2 => v = .int .i64 (m : Int)
  | 3 => ∃ ge, v = .slice (some ⟨ge, 0, none⟩) 0 0 ∧ B ≤ ge ∧ Bk w ge 5 #[] ∧ ge ≠ gR
  | 4 => v = .pointer (some ⟨xb, 1, none⟩)
  | 5 => v = .slice Ad L.length c1
  | 6 => ∃ A' c', v = .slice A' L.length c' ∧ (∀ a, A' = some a → B ≤ a.block) ∧ SegF w (.slice (some ⟨gR, 0, none⟩) n cap) A' (u8s L)
  | 7 => v = .pointer (some ⟨gR, m, none⟩)
  | 8 => RwN N w B (.slice (some ⟨gR, 0, none⟩) n cap) n (ts.set m L)
  | _ => True
def afH (N : Nat → Prop) (B gR n cap : Nat) (ts : List (List Nat)) (m : Nat) (w : World) : Prop := match m with
  | 8 => RwN N w B (.slice (some ⟨gR, 0, none⟩) n cap) n ts
  | _ => True
theorem afF_bel {N : Nat → Prop} {B gR n cap xb m : Nat} {Ad : Option Addr} {c1 : Nat} {L : List Nat} {ts : List (List Nat)} {w w' : World} (hb : Below w.heap.size w w') : ∀ j u u', afF N B gR n cap xb m Ad c1 L ts j u u' w → afF N B gR n cap xb m Ad c1 L ts j u u' w' := by
  intro j u u' h
  unfold afF at *
  split at h <;> first | exact h | exact h.bel hb | skip
  · obtain ⟨ge, hv, h1, h2, h3⟩ := h
    exact ⟨ge, hv, h1, h2.bel hb, h3⟩
  · obtain ⟨A', c', hv, h0, h1⟩ := h
    exact ⟨A', c', hv, h0, h1.bel hb⟩
theorem afF_set {N : Nat → Prop} {B gR n cap xb m i : Nat} {Ad : Option Addr} {c1 : Nat} {L : List Nat} {ts : List (List Nat)} {w : World} {u0 : Value} : ∀ j, j ≠ 8 → ∀ u u', afF N B gR n cap xb m Ad c1 L ts j u u' w → afF N B gR n cap xb m Ad c1 L ts j u u' (w.setCell ⟨gR, i, none⟩ u0) := by
  intro j h8 u u' h
  unfold afF at *
  split at h <;> first | exact h | exact absurd rfl h8 | skip
  · obtain ⟨ge, hv, h1, h2, h3⟩ := h
    exact ⟨ge, hv, h1, h2.far h3 _, h3⟩
  · obtain ⟨A', c', hv, h0, h1⟩ := h
    exact ⟨A', c', hv, h0, h1.far⟩
theorem afH_bel {N : Nat → Prop} {B gR n cap : Nat} {ts : List (List Nat)} {w w' : World} (hb : Below w.heap.size w w') : ∀ m, afH N B gR n cap ts m w → afH N B gR n cap ts m w' := by
  intro m h
  unfold afH at *
  split at h <;> first | exact h | exact h.bel hb
theorem rows_cells {w : World} {N : Nat → Prop} {A : Option Addr} {rows : List (List Nat)} (h : RsN w N A rows) (hne : ∀ x ∈ rows, x ≠ []) : ∃ xs : List Value, xs.length = rows.length ∧ Seg w A xs ∧ (∀ u ∈ xs, u.oneCell' = true) ∧ ∀ i (hi : i < rows.length), ∃ B c, xs[i]? = some (.slice B (rows[i]).length c) ∧ Seg w B (u8s (rows[i])) ∧ ∀ a, B = some a → N a.block := by
  by_cases h0 : rows.length = 0
  · refine ⟨[], h0.symm, Seg.nil _ _, by simp, fun i hi => by omega⟩
  · obtain ⟨b, off, _, _, hA, hb, _, _, _⟩ := h.at' 0 (by omega)
    have each : ∀ i (hi : i < rows.length), ∃ B c, w.cell? ⟨b, off + i, none⟩ = some (.slice B (rows[i]).length c) ∧ Seg w B (u8s (rows[i])) ∧ ∀ a, B = some a → N a.block := fun i hi => by
      obtain ⟨b2, off2, B, c, hA2, _, _, h1, h2⟩ := h.at' i hi
      rw [hA] at hA2
      injection hA2 with hA2
      injection hA2 with e1 e2
      subst e1
      subst e2
      refine ⟨B, c, h1, h2.seg, fun a ha => ?_⟩
      obtain ⟨b3, off3, q1, _, q3, _⟩ := h2 (fun e => by
        have hz : (u8s (rows[i])).length = 0 := by rw [e]; rfl
        rw [u8s_length] at hz
        exact hne _ (List.getElem_mem hi) (List.eq_nil_of_length_eq_zero hz))
      rw [ha] at q1
      injection q1 with q1
      subst q1
      exact q3
    have hget : ∀ i (hi : i < rows.length), ((List.range rows.length).map fun i => (w.cell? ⟨b, off + i, none⟩).getD undef)[i]? = w.cell? ⟨b, off + i, none⟩ := fun i hi => by
      obtain ⟨B, c, h1, _⟩ := each i hi
      rw [List.getElem?_map, List.getElem?_range hi]
      show some ((w.cell? ⟨b, off + i, none⟩).getD undef) = _
      rw [h1]; rfl
    refine ⟨(List.range rows.length).map fun i => (w.cell? ⟨b, off + i, none⟩).getD undef, by simp, fun _ => ⟨b, off, hA, hb, fun i hi => ?_⟩, fun u hu => ?_, fun i hi => ?_⟩
    · exact (hget i (by simpa using hi)).symm
    · obtain ⟨i, hi, rfl⟩ := List.mem_map.1 hu
      obtain ⟨B, c, h1, _⟩ := each i (List.mem_range.1 hi)
      rw [h1]; rfl
    · obtain ⟨B, c, h1, h2⟩ := each i hi
      exact ⟨B, c, by rw [hget i hi, h1], h2⟩
theorem SegF.low {w w' : World} {base e n : Nat} {V : Value} {A : Option Addr} {xs ys : List Value} (h : Seg w A xs) (hb : Below w.heap.size w w') (hV : w'.ownsRow base e 1 V n ys) (hbase : w.heap.size ≤ base) : SegF w' V A xs := fun hn => by
  obtain ⟨b, off, h1, h2, h3⟩ := h hn
  refine ⟨b, off, h1, Nat.lt_of_lt_of_le h2 hb.size, fun e => ?_, fun i hi => ?_⟩
  · have := (hV.lt b e).1; omega
  · rw [hb.cell (p := ⟨b, off + i, none⟩) h2]; exact h3 i hi
theorem info_u8 : (Try.prog.info? 5).map (fun i => (i.zero, i.size, i.bytes)) = some (some (.int .u8 0), 1, 1) := by kernel_rfl
set_option maxRecDepth 100000 in
set_option maxHeartbeats 4000000 in
theorem after_any (N : Nat → Prop) (A Al : Option Addr) (n c nl cl : Nat) (rows : List (List Nat)) (bs : List BW) (w : World) (hn : n = rows.length) (hn2 : n ≤ 2048) (hR : RsN w N A rows) (hne : ∀ x ∈ rows, x ≠ []) (hN : ∀ g, w.heap.size ≤ g → N g) (hnl : nl = bs.length) (hB : BsAt w Al bs) (hl2 : nl ≤ 1000) (hin : ∀ x ∈ bs, 0 ≤ x.n ∧ x.n < n ∧ x.l.length ≤ 1000000) :
    Calls Try.prog 38 #[.slice A n c, .slice Al nl cl] w fun e w' => ∃ A' c', e = .returned (.slice A' n c') ∧ RsN w' N A' (afterN rows (bs.map BW.nat)) ∧ Below w.heap.size w w' := by
  obtain ⟨i0, hi0, hz0, hz1, hz2⟩ := info_parts info_row
  obtain ⟨j0, hj0, hy0, hy1, hy2⟩ := info_parts info_u8
  obtain ⟨xs, hxl, hxs, hx1, hxr⟩ := rows_cells hR hne
  have HNN := Lib.hid hN
  have HN := Lib.hid hn
  have HNL := Lib.hid hnl
  have HBS := Lib.hid hB
  have HIN := Lib.hid hin
  have HXS := Lib.hid hxs
  have HX1 := Lib.hid hx1
  have HXR := Lib.hid hxr
  have HXL := Lib.hid (show n = xs.length by omega)
  clear hn hnl hB hin hxs hx1 hxr hxl hR hne hN
  go_enter Try.func38, Try.ntmps38
  go_wp2_with (first
    | (at_builtin; refine wpList_append_seg _ rfl _ _ _ rfl w.heap.size 26 i0 _ 24 Try.underlying24 hi0 hz0 hz1 hz2 rfl _ 0 _ rfl (World.ownsRow_lit w #[] 0 (by omega) (by decide) rfl) A n c xs rfl HXL.out (HXS.out.bel ((Below.refl _ _).alloc (Nat.le_refl _) _)) HX1.out (by simp only [maxLen]; omega) (by omega) (by simp) ?_; intro v1 w1 hown1 hb1; simp only [Nat.zero_add, List.nil_append] at hown1; obtain ⟨Av, cv, rfl, hcv, _⟩ := own_shape hown1; have HOW := Lib.hid hown1; have HB1 := Lib.hid (((Below.refl w.heap.size w).alloc (Nat.le_refl _) (.cells #[] 26)).trans hb1); clear hown1 hb1))
  have HR0 := Lib.hid (show RwN N w1 w.heap.size (.slice Av n cv) n (afterN rows ((bs.take 0).map BW.nat)) from ⟨HN.out, xs, HOW.out, (fun i hi => by
    obtain ⟨B, c, a1, a2, _⟩ := HXR.out i hi
    exact ⟨B, c, a1, SegF.low a2 HB1.out HOW.out (Nat.le_refl _)⟩), fun i a n2 c2 hi => by
    have hil : i < rows.length := by
      have := (List.getElem?_eq_some_iff.1 hi).1
      rw [← HN.out, HXL.out]; exact this
    obtain ⟨B, c, a1, _, a3⟩ := HXR.out i hil
    rw [hi] at a1
    injection a1 with a1
    injection a1 with a1
    exact a3 a a1.symm⟩)
  go_wp2_with fail
  go_loopw [13] (fun i wr => ∃ k : Nat, k ≤ nl ∧ i = .int .i64 k ∧ RwN N wr w.heap.size (.slice Av n cv) n (afterN rows ((bs.take k).map BW.nat)) ∧ Below w.heap.size w wr) (fun i _ => nl - (intOf i).toNat)
  case atStart => exact ⟨0, by omega, rfl, HR0.out, HB1.out⟩
  case round =>
    obtain ⟨k, hk, rfl, hR, hb⟩ := hrel
    by_cases hkn : k < nl
    · have hkl : k < bs.length := by rw [← HNL.out]; exact hkn
      have hkI : (k : Int) < (nl : Int) := by omega
      have hk0 : (0 : Int) ≤ (k : Int) := by omega
      obtain ⟨b1, off, Ad, c1, rfl, hb1', c0w, c1w, hsd⟩ := HBS.out.at' k hkl
      have c0 := (hb.cell (p := ⟨b1, off + k * 2, none⟩) hb1').trans c0w
      have c1' := (hb.cell (p := ⟨b1, off + k * 2 + 1, none⟩) hb1').trans c1w
      obtain ⟨hi1, hi2, hi3⟩ := HIN.out _ (List.getElem_mem hkl)
      obtain ⟨m, hm⟩ : ∃ m : Nat, (bs[k]).n = (m : Int) := ⟨(bs[k]).n.toNat, by omega⟩
      obtain ⟨L, hL⟩ : ∃ L, (bs[k]).l = L := ⟨_, rfl⟩
      have HT := Lib.hid (show afterN rows ((bs.take (k + 1)).map BW.nat) = (afterN rows ((bs.take k).map BW.nat)).set m L by
        rw [List.take_succ_eq_append_getElem hkl, List.map_append, List.map_cons, List.map_nil, afterN_snoc]
        unfold BW.nat
        rw [hm, hL]; rfl)
      rw [hm] at c0 hi1 hi2
      rw [hL] at c1' hsd hi3
      have hmn : m < n := by omega
      have hmI : (m : Int) < (n : Int) := by omega
      have hm0 : (0 : Int) ≤ (m : Int) := by omega
      have hR' := hR
      obtain ⟨hkr, xs0, ho0, _, _⟩ := hR'
      obtain ⟨gR, cap, hv, _, hlt⟩ := ho0.form (by omega)
      injection hv with hv1 _ hv3
      subst hv1
      subst hv3
      obtain ⟨w4, hw4⟩ : ∃ w4, w4 = wr.alloc (.cells #[.int .i64 (m : Int), .slice Ad L.length c1] 76) := ⟨_, rfl⟩
      have B4 : Below wr.heap.size wr w4 := by rw [hw4]; exact (Below.refl _ _).alloc (Nat.le_refl _) _
      have X4 : Bk w4 wr.heap.size 76 #[.int .i64 (m : Int), .slice Ad L.length c1] := by rw [hw4]; exact Bk.new wr _ _
      have G0 := Lib.hid (show AfG w wr.heap.size #[.int .i64 (m : Int), .slice Ad L.length c1] w4.drew from ⟨(below_step hb B4).drew, X4⟩)
      obtain ⟨ts, hts⟩ : ∃ ts, ts = afterN rows ((bs.take k).map BW.nat) := ⟨_, rfl⟩
      rw [← hts] at hR HT
      have H0 := Lib.hid (show ∀ m, m < 9 → afH N w.heap.size gR n cv ts m w4.drew from fun m _ => by
        unfold afH
        split
        · exact (hR.bel B4).bel (Below.refl _ _).drew
        · trivial)
      have HSD := Lib.hid hsd
      have HW4 := Lib.hid hw4
      obtain ⟨xb, hxb⟩ : ∃ xb, xb = wr.heap.size := ⟨_, rfl⟩
      have HXB := Lib.hid hxb
      rw [← hxb] at G0
      clear hR hb c0w c1w hsd hi1 hi2 hm hL hkr ho0 hw4 B4 X4 hts hxb
      go_upto_region 5 with fail
      rw [← HW4.out, ← HXB.out]
      refine wp_region_late [some 17, some 18, some 19, some 20, some 21, some 22, some 23, some 24, none] (fun _ => 0) (afF N w.heap.size gR n cv xb m Ad c1 L ts) (AfG w xb #[.int .i64 (m : Int), .slice Ad L.length c1]) (afH N w.heap.size gR n cv ts) (by kernel_rfl) G0.out H0.out rfl (by kernel_rfl) (by kernel_rfl) (by kernel_rfl) (by kernel_rfl) (fun T hT => ?_)
      simp only [List.filterMap_cons, List.filterMap_nil, id, putsS, Act.put, List.setIfInBounds_toArray, List.set_cons_zero, List.set_cons_succ] at hT
      subst hT
      refine ⟨⟨?_, ?_, ?_, ?_, ?_, ?_, ?_, ?_, ?_, trivial⟩, ?_⟩
      · -- 0: Op.move t5
        intro f w1 hG hO hL hF K hK
        clear hF hO hL
        dsimp only at hK ⊢
        go_simp
        exact hK.out _ _ hG rfl (fun _ _ _ h => h) (fun _ _ h => h)
      · -- 1: Op.fieldAddr 76 t7 0
        intro f w1 hG hO hL hF K hK
        clear hF hO hL
        dsimp only at hK ⊢
        go_simp
        exact hK.out _ _ hG rfl (fun _ _ _ h => h) (fun _ _ h => h)
      · -- 2: Op.load 3 t18
        intro f w1 hG hO hL hF K hK
        have d1 : (afF N w.heap.size gR n cv xb m Ad c1 L ts) 1 (f 18) (f 0) w1 := hF 1 (by kernel_rfl)
        clear hF hO hL
        dsimp only at hK ⊢
        generalize hf18 : f 18 = v18 at *
        subst d1
        have y := hG.bx.cell 0
        simp only [List.getElem?_toArray, List.getElem?_cons_zero] at y
        go_simp
        exact hK.out _ _ hG rfl (fun _ _ _ h => h) (fun _ _ h => h)
      · -- 3: Op.buildSlice 26 0 #[]
        intro f w1 hG hO hL hF K hK
        have l8 : (afH N w.heap.size gR n cv ts) 8 w1 := hL 8 (Nat.le_of_ble_eq_true (by kernel_rfl)) (by kernel_rfl)
        clear hF hO hL
        dsimp only at hK ⊢
        have hlt : gR < w1.heap.size := by
          obtain ⟨_, _, ho, _⟩ := (show RwN N _ _ _ _ _ from l8)
          exact (ho.lt gR rfl).2
        go_simp
        exact hK.out _ _ (hG.next ((Below.refl _ _).alloc (Nat.le_refl _) _)) ⟨w1.heap.size, rfl, hG.bel.size, Bk.new w1 _ _, (by omega)⟩ (fun j _ _ h => afF_bel ((Below.refl _ _).alloc (Nat.le_refl _) _) j _ _ h) (fun m _ h => afH_bel ((Below.refl _ _).alloc (Nat.le_refl _) _) m h)
      · -- 4: Op.fieldAddr 76 t7 1
        intro f w1 hG hO hL hF K hK
        clear hF hO hL
        dsimp only at hK ⊢
        go_simp
        exact hK.out _ _ hG rfl (fun _ _ _ h => h) (fun _ _ h => h)
      · -- 5: Op.load 26 t21
        intro f w1 hG hO hL hF K hK
        have d4 : (afF N w.heap.size gR n cv xb m Ad c1 L ts) 4 (f 21) (f 0) w1 := hF 4 (by kernel_rfl)
        clear hF hO hL
        dsimp only at hK ⊢
        generalize hf21 : f 21 = v21 at *
        subst d4
        have y := hG.bx.cell 1
        simp only [List.getElem?_toArray, List.getElem?_cons_zero, List.getElem?_cons_succ] at y
        go_simp
        exact hK.out _ _ hG rfl (fun _ _ _ h => h) (fun _ _ h => h)
      · -- 6: Op.call ( builtin append, args := #[t20, t22], argTypes := #[26, 26] )
        intro f w1 hG hO hL hF K hK
        have l8 : (afH N w.heap.size gR n cv ts) 8 w1 := hL 8 (Nat.le_of_ble_eq_true (by kernel_rfl)) (by kernel_rfl)
        have d3 : (afF N w.heap.size gR n cv xb m Ad c1 L ts) 3 (f 20) (f 0) w1 := hF 3 (by kernel_rfl)
        have d5 : (afF N w.heap.size gR n cv xb m Ad c1 L ts) 5 (f 22) (f 0) w1 := hF 5 (by kernel_rfl)
        clear hF hO hL
        dsimp only at hK ⊢
        generalize hf20 : f 20 = v20 at *
        generalize hf22 : f 22 = v22 at *
        have d5 : v22 = .slice Ad L.length c1 := d5
        subst d5
        obtain ⟨ge, rfl, hge, hbk, hner⟩ := d3
        obtain ⟨v', w2', hrun, hown, hbel⟩ := run_append_empty (P := Try.prog) w1 w.heap.size 26 26 5 j0 _ 1 Try.underlying26 hj0 hy0 hy1 hy2 rfl ge hge hbk Ad L.length c1 (u8s L) (by rw [u8s_length]) (HSD.out.below (Nat.le_refl _) hG.bel) (u8s_one _) (by simp only [maxLen]; omega) (by omega)
        obtain ⟨A6, c6, rfl, _⟩ := own_shape hown
        obtain ⟨_, xsR, hoR, _⟩ := (show RwN N w1 _ _ _ _ from l8)
        refine Lib.wp_append_run w1 _ _ _ _ rfl _ _ rfl rfl _ w2' hrun (hK.out _ _ (hG.next hbel) ⟨A6, c6, rfl, own_freshJ hown, SegF.own hown (own_belS hoR hbel)⟩ (fun j _ _ h => afF_bel hbel j _ _ h) (fun m _ h => afH_bel hbel m h))
      · -- 7: Op.indexAddr 24 t17 t19
        intro f w1 hG hO hL hF K hK
        have d0 : (afF N w.heap.size gR n cv xb m Ad c1 L ts) 0 (f 17) (f 0) w1 := hF 0 (by kernel_rfl)
        have d2 : (afF N w.heap.size gR n cv xb m Ad c1 L ts) 2 (f 19) (f 0) w1 := hF 2 (by kernel_rfl)
        clear hF hO hL
        dsimp only at hK ⊢
        generalize hf17 : f 17 = v17 at *
        generalize hf19 : f 19 = v19 at *
        subst d0 d2
        go_simp
        exact hK.out _ _ hG rfl (fun _ _ _ h => h) (fun _ _ h => h)
      · -- 8: Op.store 26 t24 t23
        intro f w1 hG hO hL hF K hK
        have l8 : (afH N w.heap.size gR n cv ts) 8 w1 := hL 8 (Nat.le_of_ble_eq_true (by kernel_rfl)) (by kernel_rfl)
        have d7 : (afF N w.heap.size gR n cv xb m Ad c1 L ts) 7 (f 24) (f 0) w1 := hF 7 (by kernel_rfl)
        have d6 : (afF N w.heap.size gR n cv xb m Ad c1 L ts) 6 (f 23) (f 0) w1 := hF 6 (by kernel_rfl)
        clear hF hO hL
        dsimp only at hK ⊢
        generalize hf24 : f 24 = v24 at *
        generalize hf23 : f 23 = v23 at *
        subst d7
        obtain ⟨A6, c6, rfl, hs0, hs6⟩ := d6
        have l8' : RwN N w1 w.heap.size (.slice (some ⟨gR, 0, none⟩) n cv) n ts := l8
        obtain ⟨hnR, xsR, hoR, _⟩ := (show RwN N w1 _ _ _ _ from l8)
        have hxR : xsR.length = n := by have := hoR.1; omega
        have y0 := hoR.cells (g := gR) rfl m _ (List.getElem?_eq_getElem (by omega))
        rw [addr_add] at y0
        have hfr : w1.frozen? ⟨gR, m, none⟩ = false := by
          rcases hoR.2 with ⟨hv, _⟩ | ⟨g', cap', cur, hv, _, hg, _⟩
          · cases hv
          · injection hv with e1
            injection e1 with e1
            injection e1 with e1
            subst e1
            exact Bk.frozen (show Bk w1 gR 26 cur from hg) m
        have HR8 := Lib.hid (l8'.set (cd := c6) hmn hs6 (fun a e => HNN.out _ (hs0 a e)))
        have hxg : xb ≠ gR := fun e => by
          subst e
          exact own_neV hoR hG.bx (by decide) rfl
        have HG := Lib.hid hG
        have HGR := Lib.hid (hoR.lt gR rfl).1
        generalize xsR[m]'(by omega) = y at y0
        clear l8 l8' hoR hs0 hs6 hG hnR hxR
        go_simp
        refine hK.out undef _ ⟨HG.out.bel.setCell HGR.out _, HG.out.bx.far hxg _⟩ HR8.out (fun j hj _ h => afF_set j hj _ _ h) ?_
        intro m2 hm2 h
        unfold afH at *
        split at h
        · exact absurd rfl hm2
        · trivial
      intro f w6 hG hF
      have g8 : RwN N w6 w.heap.size (.slice (some ⟨gR, 0, none⟩) n cv) n (ts.set m L) := hF 8 (by decide)
      have HG := Lib.hid hG
      have H8 := Lib.hid g8
      clear hF hG g8
      dsimp only
      generalize f 17 = v17
      generalize f 18 = v18
      generalize f 19 = v19
      generalize f 20 = v20
      generalize f 21 = v21
      generalize f 22 = v22
      generalize f 23 = v23
      generalize f 24 = v24
      go_wp2_with fail
      exact ⟨⟨k + 1, by omega, by go_num, by rw [HT.out]; exact H8.out, HG.out.bel⟩, by simp [intOf]; omega⟩
    · obtain rfl : k = nl := by omega
      have hkk : ¬ (k : Int) < (k : Int) := by omega
      rw [List.take_of_length_le (by rw [← HNL.out]; omega)] at hR
      have HR := Lib.hid (hR.rs HNN.out).1
      have HB := Lib.hid hb
      clear hR hb
      go_wp2_with fail
      go_ret
      exact ⟨Av, ⟨cv, rfl⟩, HR.out, HB.out⟩
end Go.Proofs.Ytmgbmnbjionapaa
