/- The block of a node that may stand in one. Condition: the node is in form and not too great, and its rows lie in memory. -/
import Derived.Test.YtopkkolcimmedaaEncW
namespace Go.Proofs.Ytopkkolcimmedaa
open Go.RowKit

theorem sumN_ge {n : NodeM} (h : formB n = true) : ∀ k, k ≤ n.keys.length → 2 * k ≤ sumN n k
  | 0, _ => Nat.le_refl _
  | k + 1, hk => by
    have h1 := sumN_ge h k (by omega)
    have h2 := (keyOk_size (form_keys h) n.keys[k] (List.getElem_mem (by omega))).1
    have h3 : 1 + (n.keys.getD k ByteArray.empty).size ≤ keyN n k := by unfold keyN; omega
    rw [getD_at (by omega)] at h3
    rw [sumN]
    omega
theorem form_kids {n : NodeM} (h : formB n = true) (hl : n.leaf = false) : ∀ k ∈ n.kids, 0 ≤ k ∧ k ≤ 2047 := by
  have h2 := form_rest h
  unfold restOk at h2
  rw [hl] at h2
  simp only [Bool.false_eq_true, if_false, Bool.and_eq_true, List.all_eq_true] at h2
  intro k hk
  have := h2.2 k hk
  unfold kidOk at this
  simpa using this
/-- A walk that writes a node's block: the node's own box, and the block. -/
structure EnW (w0 : World) (gb g : Nat) (cs : Array Value) (l : List Nat) (w : World) : Prop where
  bk : Bk w gb 30 cs
  en : EncW w g l
  bel : Below w0.heap.size w0 w
theorem EnW.step {w0 : World} {gb g : Nat} {cs : Array Value} {l l' : List Nat} {w w' : World} (h : EnW w0 gb g cs l w) (hb : Below g w w') (e : EncW w' g l') (hgb : gb < g) (hg : w0.heap.size ≤ g) : EnW w0 gb g cs l' w' :=
  ⟨h.bk.below hb hgb, e, h.bel.trans (hb.mono hg)⟩
theorem enc_room {n : NodeM} (h : formB n = true) (hs : sizeN n ≤ 256) (k : Nat) (hk : k < n.keys.length) : (encTo n k).length + (pieceB n k).length ≤ 256 := by
  have h1 := encTo_length (form_vk h) (k + 1) (by omega)
  rw [encTo, List.length_append] at h1
  have h2 := sumN_mono (n := n) (show k + 1 ≤ n.keys.length by omega)
  unfold sizeN at hs
  omega
theorem piece_leaf {ks vs : List ByteArray} {cs : List Int} (k : Nat) (hk : k < ks.length) (hv : k < vs.length) : pieceB ⟨true, ks, vs, cs⟩ k = textN ks[k] ++ textN vs[k] := by
  unfold pieceB
  simp only [if_true]
  rw [getD_at hk, getD_at hv]
theorem piece_branch {ks vs : List ByteArray} {cs : List Int} (k : Nat) (hk : k < ks.length) (hc : k + 1 < cs.length) : pieceB ⟨false, ks, vs, cs⟩ k = textN ks[k] ++ kidB cs[k + 1] := by
  unfold pieceB
  simp only [Bool.false_eq_true, if_false]
  rw [getD_at hk]
  simp [hc]
set_option maxRecDepth 100000 in
set_option maxHeartbeats 4000000 in
theorem nencode_leaf (ks vs : List ByteArray) (cs : List Int) (A B C : Option Addr) (nk ca nv cb nc cc : Nat) (w : World) (h : Nd w ⟨true, ks, vs, cs⟩ A B C nk ca nv cb nc cc) (hf : formB ⟨true, ks, vs, cs⟩ = true) (hs : sizeN ⟨true, ks, vs, cs⟩ ≤ 256) :
    Calls Try.prog 11 #[.agg #[.bool true, .slice A nk ca, .slice B nv cb, .slice C nc cc]] w fun e w' => (∃ g, e = .returned (.tuple #[.slice (some ⟨g, 0, none⟩) 256 256, .int .i64 0]) ∧ w.heap.size ≤ g ∧ EncW w' g (encTo ⟨true, ks, vs, cs⟩ nk)) ∧ Below w.heap.size w w' := by
  have H := Lib.hid h
  have HF := Lib.hid hf
  have bk := h.bk
  have EK := Lib.hid (show nk = ks.length from h.ek)
  have C00 := fun w' (hb : Below w.heap.size w w') => check_any ⟨true, ks, vs, cs⟩ A B C nk ca nv cb nc cc w' (H.out.bel hb) (by omega)
  rw [show checkN ⟨true, ks, vs, cs⟩ = 0 by unfold checkN; rw [hf]; simp; exact hs] at C00
  have C0 := Lib.hid C00
  clear C00
  have HSZ := Lib.hid hs
  have HA := Lib.hid ((Below.refl w.heap.size w).alloc (Nat.le_refl _) (.cells #[.bool true, .slice A nk ca, .slice B nv cb, .slice C nc cc] 30))
  have HB := Lib.hid (Bk.new w 30 #[.bool true, .slice A nk ca, .slice B nv cb, .slice C nc cc])
  obtain ⟨i0, hi0, hz0, hz1, hz2⟩ := info_parts info5
  obtain ⟨l0, hl0⟩ : ∃ l0 : List Nat, l0 = [] := ⟨_, rfl⟩
  have hmake : ∀ w : World, (Instr.makeSlice 44 (.int .i64 0) (.int .i64 256)).run Try.prog w = .ok (.slice (some ⟨w.heap.size, 0, none⟩) 0 256) (w.alloc (.cells (u8s (padB l0)).toArray 5)) := fun w => by
    rw [hl0]
    have := run_make (P := Try.prog) w 44 5 i0 (.int .u8 0) Try.underlying44 hi0 hz0 .i64 .i64 0 256 (by omega) (by omega) (by rw [hz2]; omega) (by omega)
    rw [hz1] at this
    rw [show (u8s (padB [])).toArray = madeCells #[.int .u8 0] 256 by kernel_rfl]
    exact this
  have hnk : nk ≤ 127 := by
    have h1 := sumN_ge hf nk (show nk ≤ ks.length by rw [← h.ek]; exact Nat.le_refl _)
    have h2 := hs
    unfold sizeN at h2
    have h3 : headN true + sumN ⟨true, ks, vs, cs⟩ ks.length ≤ 256 := h2
    rw [← show nk = ks.length from h.ek] at h3
    simp only [headN, if_true, Bool.false_eq_true, if_false] at h3
    omega
  have HL0 := Lib.hid hl0
  have HLN := Lib.hid (show 0 = l0.length by rw [hl0]; rfl)
  clear h hf hs hl0
  go_enter Try.func11, Try.ntmps11
  go_wp2_with fail
  refine (C0.out _ HA.out).mono ?_
  rintro e w1 ⟨rfl, hb1⟩
  have HA1 := Lib.hid (HA.out.trans (hb1.mono HA.out.size))
  have hbk := HB.out.bel hb1
  have y0 := hbk.cell 0
  have y1 := hbk.cell 1
  have y2 := hbk.cell 2
  have y3 := hbk.cell 3
  have HB1 := Lib.hid hbk
  clear hb1 hbk
  obtain ⟨g, hg⟩ : ∃ g, g = w1.heap.size := ⟨_, rfl⟩
  have HG := Lib.hid hg
  have HE0 := Lib.hid (show EncW (w1.alloc (.cells (u8s (padB l0)).toArray 5)) g l0 by rw [hg]; exact Bk.new w1 _ _)
  clear hg
  have HN0 := Lib.hid (show EnW w w.heap.size g #[.bool true, .slice A nk ca, .slice B nv cb, .slice C nc cc] l0 (w1.alloc (.cells (u8s (padB l0)).toArray 5)) from ⟨HB1.out.alloc _, HE0.out, HA1.out.alloc HA1.out.size _⟩)
  have hgb : w.heap.size < g := by rw [HG.out]; exact HB1.out.lt
  have z0 := HN0.out.bk.cell 0
  have z1 := HN0.out.bk.cell 1
  have hw1 : EncW ((w1.alloc (.cells (u8s (padB l0)).toArray 5)).alloc (.cells #[.int .u8 1, .int .u8 (nk : Int)] 5)) g l0 := Bk.alloc HE0.out _
  have R1 := fun ty => run_append_room (P := Try.prog) _ 44 ty 5 i0 Try.underlying44 hi0 hz1 g l0.length 256 _ hw1 (EncW.size hw1 (by rw [← HLN.out]; omega)) (some ⟨w1.heap.size + 1, 0, none⟩) ([1, nk] : List Nat).length 2 (u8s [1, nk]) rfl (by have := seg_two (w1.alloc (.cells (u8s (padB l0)).toArray 5)) (.int .u8 1) (.int .u8 (nk : Int)) 5; rw [World.size_alloc] at this; simpa [u8s] using this) (u8s_one _) (by rw [← HLN.out]; simp) (by simp)
  have E1 := EncW.more hw1 [1, nk] (by rw [← HLN.out]; simp)
  have B1 := below_setRow_ ((Below.refl g (w1.alloc (.cells (u8s (padB l0)).toArray 5))).alloc (by rw [HG.out]; simp) (.cells #[.int .u8 1, .int .u8 (nk : Int)] 5)) (Nat.le_refl g) ((u8s (padB l0)).toArray.toList.take l0.length ++ u8s [1, nk] ++ (u8s (padB l0)).toArray.toList.drop (l0.length + [1, nk].length)).toArray
  obtain ⟨w3, hw3⟩ : ∃ w3, w3 = ((w1.alloc (.cells (u8s (padB l0)).toArray 5)).alloc (.cells #[.int .u8 1, .int .u8 (nk : Int)] 5)).setRow g ((u8s (padB l0)).toArray.toList.take l0.length ++ u8s [1, nk] ++ (u8s (padB l0)).toArray.toList.drop (l0.length + [1, nk].length)).toArray := ⟨_, rfl⟩
  rw [← hw3] at E1 B1
  have HR1 : Hid (∀ ty, (Builtin.append_ #[44, 44] ty #[.slice (some ⟨w1.heap.size, 0, none⟩) 0 256, .slice (some ⟨w1.heap.size + 1, 0, none⟩) 2 2]).run Try.prog ((w1.alloc (.cells (u8s (padB l0)).toArray 5)).alloc (.cells #[.int .u8 1, .int .u8 (nk : Int)] 5)) = .ok (.slice (some ⟨g, 0, none⟩) 2 256) w3) := Lib.hid (fun ty => by
    have h1 := R1 ty
    rw [← hw3] at h1
    rw [← HLN.out] at h1
    rw [← HG.out] at h1 ⊢
    exact h1)
  have HN1 := Lib.hid (HN0.out.step B1 E1 hgb (by omega))
  have u0 := HN1.out.bk.cell 0
  have u1 := HN1.out.bk.cell 1
  have u3 := HN1.out.bk.cell 3
  clear R1 hw1 E1 B1 hw3
  go_wp2_with (at_builtin; refine wpList_append_ran rfl _ _ _ _ rfl _ _ rfl rfl _ _ (HR1.out _) ?_)
  have HH := Lib.hid (show l0 ++ [1, nk] = encTo ⟨true, ks, vs, cs⟩ 0 by rw [HL0.out]; show [1, nk] = [1, ks.length % 256]; rw [← EK.out, Nat.mod_eq_of_lt (by omega)])
  have HN2 : Hid (EnW w w.heap.size g #[.bool true, .slice A nk ca, .slice B nv cb, .slice C nc cc] (encTo ⟨true, ks, vs, cs⟩ 0) w3) := Lib.hid (by rw [← HH.out]; exact HN1.out)
  have HP2 := Lib.hid (show 2 = (encTo ⟨true, ks, vs, cs⟩ 0).length by rfl)
  clear z0 z1 u0 u1 u3
  go_loopw [5, 39] (fun s5 s39 wr => ∃ k n : Nat, k ≤ nk ∧ s39 = .int .i64 (k : Int) ∧ s5 = .slice (some ⟨g, 0, none⟩) n 256 ∧ Hid (n = (encTo ⟨true, ks, vs, cs⟩ k).length) ∧ EnW w w.heap.size g #[.bool true, .slice A nk ca, .slice B nv cb, .slice C nc cc] (encTo ⟨true, ks, vs, cs⟩ k) wr) (fun _ s39 _ => nk - (intOf s39).toNat)
  case atStart => exact ⟨0, 2, by omega, rfl, rfl, HP2, HN2.out⟩
  case round =>
    obtain ⟨k, n, hk, rfl, rfl, hn, hN⟩ := hrel
    have HNr := Lib.hid hN
    have z0 := hN.bk.cell 0
    have z1 := hN.bk.cell 1
    have z2 := hN.bk.cell 2
    have z3 := hN.bk.cell 3
    clear hN
    by_cases hlt : k < nk
    · have hkl : k < ks.length := by have := EK.out; omega
      have HRM := Lib.hid (enc_room HF.out HSZ.out k hkl)
      obtain ⟨b, off, hA, hbl, hc⟩ := (H.out.sk.bel HNr.out.bel).str (k := k) hkl
      subst hA
      have hvl : k < vs.length := by have := (form_leaf_eq HF.out).1; omega
      obtain ⟨b', off', hA', hbl', hc'⟩ := (H.out.sv.bel HNr.out.bel).str (k := k) hvl
      subst hA'
      have HPC := Lib.hid (piece_leaf (cs := cs) k hkl hvl)
      have hkv : k < nv := by have := H.out.ev; simp only at this; omega
      obtain ⟨s, hs⟩ : ∃ s, s = ks[k] := ⟨_, rfl⟩
      obtain ⟨t, ht⟩ : ∃ t, t = vs[k] := ⟨_, rfl⟩
      simp only at hc hc'
      rw [← hs] at hc HPC
      rw [← ht] at hc' HPC
      have hrm : n + (1 + s.size) + (1 + t.size) ≤ 256 := by
        have h1 := HRM.out
        rw [HPC.out, List.length_append, textN_length, textN_length, ← hn.out] at h1
        omega
      have C1 := Lib.hid (appendText_any g n (encTo ⟨true, ks, vs, cs⟩ k) hn.out s (by omega) wr HNr.out.en)
      have HT2 := Lib.hid ht
      clear hs ht
      go_wp2_with fail
      refine C1.out.mono ?_
      rintro e w5 ⟨rfl, he5, hb5⟩
      have HN5 := Lib.hid (HNr.out.step hb5 he5 hgb (by omega))
      have z0 := HN5.out.bk.cell 0
      have z2 := HN5.out.bk.cell 2
      obtain ⟨b2, off2, e2, hbl2, hc2⟩ := (H.out.sv.bel HN5.out.bel).str (k := k) hvl
      injection e2 with e2
      injection e2 with e3 e4
      subst e3
      subst e4
      simp only at hc2
      have C2 := Lib.hid (appendText_any g (n + (1 + s.size)) (encTo ⟨true, ks, vs, cs⟩ k ++ textN s) (by rw [List.length_append, textN_length, ← hn.out]) t (by omega) w5 HN5.out.en)
      rw [← HT2.out] at hc2
      clear he5 hb5 hc z1 z3 hc'
      go_wp2_with fail
      refine C2.out.mono ?_
      rintro e w6 ⟨rfl, he6, hb6⟩
      have HN6 := Lib.hid (HN5.out.step hb6 he6 hgb (by omega))
      clear he6 hb6 z0 z2 hc2
      have HEN := Lib.hid (show encTo ⟨true, ks, vs, cs⟩ k ++ textN s ++ textN t = encTo ⟨true, ks, vs, cs⟩ (k + 1) by rw [encTo, HPC.out, List.append_assoc])
      go_wp2_with fail
      go_roundw
      case rel => exact ⟨k + 1, _, by omega, by go_num, rfl, Lib.hid (by rw [← HEN.out, List.length_append, List.length_append, textN_length, textN_length, ← hn.out]), by rw [← HEN.out]; exact HN6.out⟩
      case measure => simp [intOf]; omega
    · have HK := Lib.hid (show k = nk by omega)
      have hn256 : n ≤ 256 := by
        have h1 := encTo_length (form_vk HF.out) k (show k ≤ ks.length by have := EK.out; omega)
        have h2 := sumN_mono (n := ⟨true, ks, vs, cs⟩) (show k ≤ (⟨true, ks, vs, cs⟩ : NodeM).keys.length by show k ≤ ks.length; have := EK.out; omega)
        have h3 := HSZ.out
        unfold sizeN at h3
        rw [← hn.out] at h1
        omega
      clear z0 z1 z2 z3
      go_wp2_with fail
      go_ret2
      exact ⟨⟨g, rfl, by omega, by rw [← HK.out]; exact HNr.out.en⟩, HNr.out.bel⟩
set_option maxRecDepth 100000 in
set_option maxHeartbeats 4000000 in
theorem nencode_branch (ks vs : List ByteArray) (cs : List Int) (A B C : Option Addr) (nk ca nv cb nc cc : Nat) (w : World) (h : Nd w ⟨false, ks, vs, cs⟩ A B C nk ca nv cb nc cc) (hf : formB ⟨false, ks, vs, cs⟩ = true) (hs : sizeN ⟨false, ks, vs, cs⟩ ≤ 256) :
    Calls Try.prog 11 #[.agg #[.bool false, .slice A nk ca, .slice B nv cb, .slice C nc cc]] w fun e w' => (∃ g, e = .returned (.tuple #[.slice (some ⟨g, 0, none⟩) 256 256, .int .i64 0]) ∧ w.heap.size ≤ g ∧ EncW w' g (encTo ⟨false, ks, vs, cs⟩ nk)) ∧ Below w.heap.size w w' := by
  have H := Lib.hid h
  have HF := Lib.hid hf
  have bk := h.bk
  have EK := Lib.hid (show nk = ks.length from h.ek)
  have C00 := fun w' (hb : Below w.heap.size w w') => check_any ⟨false, ks, vs, cs⟩ A B C nk ca nv cb nc cc w' (H.out.bel hb) (by omega)
  rw [show checkN ⟨false, ks, vs, cs⟩ = 0 by unfold checkN; rw [hf]; simp; exact hs] at C00
  have C0 := Lib.hid C00
  clear C00
  have HSZ := Lib.hid hs
  have HA := Lib.hid ((Below.refl w.heap.size w).alloc (Nat.le_refl _) (.cells #[.bool false, .slice A nk ca, .slice B nv cb, .slice C nc cc] 30))
  have HB := Lib.hid (Bk.new w 30 #[.bool false, .slice A nk ca, .slice B nv cb, .slice C nc cc])
  obtain ⟨i0, hi0, hz0, hz1, hz2⟩ := info_parts info5
  obtain ⟨l0, hl0⟩ : ∃ l0 : List Nat, l0 = [] := ⟨_, rfl⟩
  have hmake : ∀ w : World, (Instr.makeSlice 44 (.int .i64 0) (.int .i64 256)).run Try.prog w = .ok (.slice (some ⟨w.heap.size, 0, none⟩) 0 256) (w.alloc (.cells (u8s (padB l0)).toArray 5)) := fun w => by
    rw [hl0]
    have := run_make (P := Try.prog) w 44 5 i0 (.int .u8 0) Try.underlying44 hi0 hz0 .i64 .i64 0 256 (by omega) (by omega) (by rw [hz2]; omega) (by omega)
    rw [hz1] at this
    rw [show (u8s (padB [])).toArray = madeCells #[.int .u8 0] 256 by kernel_rfl]
    exact this
  have hnk : nk ≤ 127 := by
    have h1 := sumN_ge hf nk (show nk ≤ ks.length by rw [← h.ek]; exact Nat.le_refl _)
    have h2 := hs
    unfold sizeN at h2
    have h3 : headN false + sumN ⟨false, ks, vs, cs⟩ ks.length ≤ 256 := h2
    rw [← show nk = ks.length from h.ek] at h3
    simp only [headN, if_true, Bool.false_eq_true, if_false] at h3
    omega
  have HL0 := Lib.hid hl0
  have HLN := Lib.hid (show 0 = l0.length by rw [hl0]; rfl)
  clear h hf hs hl0
  go_enter Try.func11, Try.ntmps11
  go_wp2_with fail
  refine (C0.out _ HA.out).mono ?_
  rintro e w1 ⟨rfl, hb1⟩
  have HA1 := Lib.hid (HA.out.trans (hb1.mono HA.out.size))
  have hbk := HB.out.bel hb1
  have y0 := hbk.cell 0
  have y1 := hbk.cell 1
  have y2 := hbk.cell 2
  have y3 := hbk.cell 3
  have HB1 := Lib.hid hbk
  clear hb1 hbk
  obtain ⟨g, hg⟩ : ∃ g, g = w1.heap.size := ⟨_, rfl⟩
  have HG := Lib.hid hg
  have HE0 := Lib.hid (show EncW (w1.alloc (.cells (u8s (padB l0)).toArray 5)) g l0 by rw [hg]; exact Bk.new w1 _ _)
  clear hg
  have HN0 := Lib.hid (show EnW w w.heap.size g #[.bool false, .slice A nk ca, .slice B nv cb, .slice C nc cc] l0 (w1.alloc (.cells (u8s (padB l0)).toArray 5)) from ⟨HB1.out.alloc _, HE0.out, HA1.out.alloc HA1.out.size _⟩)
  have hgb : w.heap.size < g := by rw [HG.out]; exact HB1.out.lt
  have z0 := HN0.out.bk.cell 0
  have z1 := HN0.out.bk.cell 1
  have hw1 : EncW ((w1.alloc (.cells (u8s (padB l0)).toArray 5)).alloc (.cells #[.int .u8 2, .int .u8 (nk : Int)] 5)) g l0 := Bk.alloc HE0.out _
  have R1 := fun ty => run_append_room (P := Try.prog) _ 44 ty 5 i0 Try.underlying44 hi0 hz1 g l0.length 256 _ hw1 (EncW.size hw1 (by rw [← HLN.out]; omega)) (some ⟨w1.heap.size + 1, 0, none⟩) ([2, nk] : List Nat).length 2 (u8s [2, nk]) rfl (by have := seg_two (w1.alloc (.cells (u8s (padB l0)).toArray 5)) (.int .u8 2) (.int .u8 (nk : Int)) 5; rw [World.size_alloc] at this; simpa [u8s] using this) (u8s_one _) (by rw [← HLN.out]; simp) (by simp)
  have E1 := EncW.more hw1 [2, nk] (by rw [← HLN.out]; simp)
  have B1 := below_setRow_ ((Below.refl g (w1.alloc (.cells (u8s (padB l0)).toArray 5))).alloc (by rw [HG.out]; simp) (.cells #[.int .u8 2, .int .u8 (nk : Int)] 5)) (Nat.le_refl g) ((u8s (padB l0)).toArray.toList.take l0.length ++ u8s [2, nk] ++ (u8s (padB l0)).toArray.toList.drop (l0.length + [2, nk].length)).toArray
  obtain ⟨w3, hw3⟩ : ∃ w3, w3 = ((w1.alloc (.cells (u8s (padB l0)).toArray 5)).alloc (.cells #[.int .u8 2, .int .u8 (nk : Int)] 5)).setRow g ((u8s (padB l0)).toArray.toList.take l0.length ++ u8s [2, nk] ++ (u8s (padB l0)).toArray.toList.drop (l0.length + [2, nk].length)).toArray := ⟨_, rfl⟩
  rw [← hw3] at E1 B1
  have HR1 : Hid (∀ ty, (Builtin.append_ #[44, 44] ty #[.slice (some ⟨w1.heap.size, 0, none⟩) 0 256, .slice (some ⟨w1.heap.size + 1, 0, none⟩) 2 2]).run Try.prog ((w1.alloc (.cells (u8s (padB l0)).toArray 5)).alloc (.cells #[.int .u8 2, .int .u8 (nk : Int)] 5)) = .ok (.slice (some ⟨g, 0, none⟩) 2 256) w3) := Lib.hid (fun ty => by
    have h1 := R1 ty
    rw [← hw3] at h1
    rw [← HLN.out] at h1
    rw [← HG.out] at h1 ⊢
    exact h1)
  have HN1 := Lib.hid (HN0.out.step B1 E1 hgb (by omega))
  have u0 := HN1.out.bk.cell 0
  have u1 := HN1.out.bk.cell 1
  have u3 := HN1.out.bk.cell 3
  clear R1 hw1 E1 B1 hw3
  obtain ⟨b8, off8, rfl, _, hc8⟩ := (H.out.sc.bel HN1.out.bel).i64 (k := 0) (show 0 < cs.length by have := form_branch_eq HF.out; omega)
  try simp only [Nat.add_zero] at hc8
  obtain ⟨x8, hx8⟩ : ∃ x8, x8 = cs[0]'(by have := form_branch_eq HF.out; omega) := ⟨_, rfl⟩
  have hkb := form_kids HF.out rfl x8 (by rw [hx8]; exact List.getElem_mem _)
  try simp only at hc8
  rw [← hx8] at hc8
  have HX8 := Lib.hid hx8
  have i8 : 0 < nc := by have := form_branch_eq HF.out; have := H.out.ec; simp only at this; omega
  have z3 := HN1.out.bk.cell 3
  have K8 := Lib.hid (appendKid_any g 2 (l0 ++ [2, nk]) (by rw [List.length_append, ← HLN.out]; rfl) x8 hkb.1 hkb.2 (by omega) w3 HN1.out.en)
  obtain ⟨k81, k82⟩ := hkb
  clear hx8
  go_wp2_with (at_builtin; refine wpList_append_ran rfl _ _ _ _ rfl _ _ rfl rfl _ _ (HR1.out _) ?_)
  refine K8.out.mono ?_
  rintro e w4 ⟨rfl, he4, hb4⟩
  have HNX := Lib.hid (HN1.out.step hb4 he4 hgb (by omega))
  clear he4 hb4 z0 z1 z3
  have HH := Lib.hid (show l0 ++ [2, nk] ++ kidB x8 = encTo ⟨false, ks, vs, cs⟩ 0 by
    rw [HL0.out]
    show [2, nk] ++ kidB x8 = [2, ks.length % 256] ++ kidB (cs.getD 0 0)
    have h0 : 0 < cs.length := by have := form_branch_eq HF.out; omega
    rw [← EK.out, Nat.mod_eq_of_lt (by omega), HX8.out]
    simp [h0])
  have HN2 : Hid (EnW w w.heap.size g #[.bool false, .slice A nk ca, .slice B nv cb, .slice (some ⟨b8, off8, none⟩) nc cc] (encTo ⟨false, ks, vs, cs⟩ 0) w4) := Lib.hid (by rw [← HH.out]; exact HNX.out)
  have HP2 := Lib.hid (show 4 = (encTo ⟨false, ks, vs, cs⟩ 0).length by rfl)
  have z0 := HN2.out.bk.cell 0
  have z1 := HN2.out.bk.cell 1
  go_wp2_with fail
  clear z0 z1 u0 u1 u3
  go_loopw [5, 39] (fun s5 s39 wr => ∃ k n : Nat, k ≤ nk ∧ s39 = .int .i64 (k : Int) ∧ s5 = .slice (some ⟨g, 0, none⟩) n 256 ∧ Hid (n = (encTo ⟨false, ks, vs, cs⟩ k).length) ∧ EnW w w.heap.size g #[.bool false, .slice A nk ca, .slice B nv cb, .slice (some ⟨b8, off8, none⟩) nc cc] (encTo ⟨false, ks, vs, cs⟩ k) wr) (fun _ s39 _ => nk - (intOf s39).toNat)
  case atStart => exact ⟨0, 4, by omega, rfl, rfl, HP2, HN2.out⟩
  case round =>
    obtain ⟨k, n, hk, rfl, rfl, hn, hN⟩ := hrel
    have HNr := Lib.hid hN
    have z0 := hN.bk.cell 0
    have z1 := hN.bk.cell 1
    have z2 := hN.bk.cell 2
    have z3 := hN.bk.cell 3
    clear hN
    by_cases hlt : k < nk
    · have hkl : k < ks.length := by have := EK.out; omega
      have HRM := Lib.hid (enc_room HF.out HSZ.out k hkl)
      obtain ⟨b, off, hA, hbl, hc⟩ := (H.out.sk.bel HNr.out.bel).str (k := k) hkl
      subst hA
      have hcl : k + 1 < cs.length := by have := (form_branch_eq HF.out).2.1; omega
      have HPC := Lib.hid (piece_branch (vs := vs) k hkl hcl)
      have hkc : k + 1 < nc := by have := H.out.ec; simp only at this; omega
      obtain ⟨s, hs⟩ : ∃ s, s = ks[k] := ⟨_, rfl⟩
      obtain ⟨t, ht⟩ : ∃ t, t = cs[k + 1] := ⟨_, rfl⟩
      simp only at hc
      rw [← hs] at hc HPC
      rw [← ht] at HPC
      have hkb := form_kids HF.out rfl t (by rw [ht]; exact List.getElem_mem _)
      have hrm : n + (1 + s.size) + 2 ≤ 256 := by
        have h1 := HRM.out
        rw [HPC.out, List.length_append, textN_length, ← hn.out] at h1
        simp only [kidB, List.length_cons, List.length_nil] at h1
        omega
      have C1 := Lib.hid (appendText_any g n (encTo ⟨false, ks, vs, cs⟩ k) hn.out s (by omega) wr HNr.out.en)
      clear hs
      have HT2 := Lib.hid ht
      clear ht
      go_wp2_with fail
      refine C1.out.mono ?_
      rintro e w5 ⟨rfl, he5, hb5⟩
      have HN5 := Lib.hid (HNr.out.step hb5 he5 hgb (by omega))
      have z0 := HN5.out.bk.cell 0
      have z3 := HN5.out.bk.cell 3
      obtain ⟨b2, off2, e2, hbl2, hc2⟩ := (H.out.sc.bel HN5.out.bel).i64 (k := k + 1) hcl
      injection e2 with e2
      injection e2 with e3 e4
      subst e3
      subst e4
      simp only at hc2
      rw [← HT2.out] at hc2
      have C2 := Lib.hid (appendKid_any g (n + (1 + s.size)) (encTo ⟨false, ks, vs, cs⟩ k ++ textN s) (by rw [List.length_append, textN_length, ← hn.out]) t hkb.1 hkb.2 (by omega) w5 HN5.out.en)
      have t1 : IntKind.i64.wrap ((k : Int) + 1) = ((k + 1 : Nat) : Int) := by rw [IntKind.wrap_i64]; omega
      clear he5 hb5 hc z1 z2 hkb
      go_wp2_with fail
      refine C2.out.mono ?_
      rintro e w6 ⟨rfl, he6, hb6⟩
      have HN6 := Lib.hid (HN5.out.step hb6 he6 hgb (by omega))
      clear he6 hb6 z0 z3 hc2
      have HEN := Lib.hid (show encTo ⟨false, ks, vs, cs⟩ k ++ textN s ++ kidB t = encTo ⟨false, ks, vs, cs⟩ (k + 1) by rw [encTo, HPC.out, List.append_assoc])
      go_wp2_with fail
      go_roundw
      case rel => exact ⟨k + 1, _, by omega, by go_num, rfl, Lib.hid (by rw [← HEN.out, List.length_append, List.length_append, textN_length, ← hn.out]; rfl), by rw [← HEN.out]; exact HN6.out⟩
      case measure => simp [intOf]; omega
    · have HK := Lib.hid (show k = nk by omega)
      have hn256 : n ≤ 256 := by
        have h1 := encTo_length (form_vk HF.out) k (show k ≤ ks.length by have := EK.out; omega)
        have h2 := sumN_mono (n := ⟨false, ks, vs, cs⟩) (show k ≤ (⟨false, ks, vs, cs⟩ : NodeM).keys.length by show k ≤ ks.length; have := EK.out; omega)
        have h3 := HSZ.out
        unfold sizeN at h3
        rw [← hn.out] at h1
        omega
      clear z0 z1 z2 z3
      go_wp2_with fail
      go_ret2
      exact ⟨⟨g, rfl, by omega, by rw [← HK.out]; exact HNr.out.en⟩, HNr.out.bel⟩
theorem nencode_any (n : NodeM) (A B C : Option Addr) (nk ca nv cb nc cc : Nat) (w : World) (h : Nd w n A B C nk ca nv cb nc cc) (hf : formB n = true) (hs : sizeN n ≤ 256) :
    Calls Try.prog 11 #[.agg #[.bool n.leaf, .slice A nk ca, .slice B nv cb, .slice C nc cc]] w fun e w' => (∃ g, e = .returned (.tuple #[.slice (some ⟨g, 0, none⟩) 256 256, .int .i64 0]) ∧ w.heap.size ≤ g ∧ EncW w' g (encTo n nk)) ∧ Below w.heap.size w w' := by
  obtain ⟨lf, ks, vs, cs⟩ := n
  cases lf
  · exact nencode_branch ks vs cs A B C nk ca nv cb nc cc w h hf hs
  · exact nencode_leaf ks vs cs A B C nk ca nv cb nc cc w h hf hs
end Go.Proofs.Ytopkkolcimmedaa
