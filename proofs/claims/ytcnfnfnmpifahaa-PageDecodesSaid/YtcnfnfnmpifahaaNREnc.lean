/- The reference's block of a node in form. Condition: the node's rows lie in memory. -/
import Derived.Test.YtcnfnfnmpifahaaRdM
import Derived.Test.YtcnfnfnmpifahaaTwo
import Derived.Test.YtcnfnfnmpifahaaStableO
import Derived.Lib.ConvBytes
import Derived.Lib.AppendZeros
import Derived.StillTailTactics
import Derived.IntWalk
import Derived.Deep.CutBlock
import Derived.Deep.DeepCutAuto
namespace Go.Proofs.Ytcnfnfnmpifahaa
open Go.RowKit

theorem bw_bel (w : World) (s : ByteArray) : Below w.heap.size w (Lib.bytesWorld w 5 s) :=
  ⟨by simp [Lib.bytesWorld, World.freeze, World.alloc, World.drew, -World.alloc_eq, -World.drew_eq], by simp [Lib.bytesWorld, World.freeze, World.alloc, World.drew, -World.alloc_eq, -World.drew_eq], by simp [Lib.bytesWorld, World.freeze, World.alloc, World.drew, -World.alloc_eq, -World.drew_eq], by rw [Lib.bytesWorld_size]; omega, fun j hj => Lib.bytesWorld_at_old w _ s j hj⟩
theorem bw_seg (w : World) (s : ByteArray) : Seg (Lib.bytesWorld w 5 s) (some ⟨w.heap.size, 0, none⟩) (u8s (bytesN s)) := fun _ => by
  refine ⟨w.heap.size, 0, rfl, by rw [Lib.bytesWorld_size]; omega, fun i hi => ?_⟩
  rw [u8s_length, bytesN_length] at hi
  rw [Nat.zero_add, Lib.bytesWorld_cell w _ s i hi, List.getElem?_eq_getElem (by rw [u8s_length, bytesN_length]; exact hi), u8s_get _ _ (by rw [bytesN_length]; exact hi)]
  have hi2 : i < s.data.toList.length := hi
  have hi3 : i < s.data.size := hi
  simp only [bytesN, List.getElem_map, List.getD, List.getElem?_eq_getElem hi2, Option.getD_some]
theorem seg_pair (w : World) (a b : Value) (e : TypeId) : Seg (w.alloc (.cells #[a, b] e)) (some ⟨w.heap.size, 0, none⟩) [a, b] :=
  Seg.of_block (heap_alloc_new w _) (by
    intro i hi
    match i, hi with
    | 0, _ => rfl
    | 1, _ => rfl)
structure ReG (w0 : World) (g n c : Nat) (xs : List Value) (w : World) : Prop where
  bel : Below w0.heap.size w0 w
  lt : g < w.heap.size
  own : w.ownsRow w0.heap.size 5 1 (.slice (some ⟨g, 0, none⟩) n c) n xs
theorem ReG.big {w0 w : World} {g n c : Nat} {xs : List Value} (h : ReG w0 g n c xs w) : w0.heap.size ≤ w.heap.size := h.bel.size
theorem ReG.next {w0 w w' : World} {g n c : Nat} {xs : List Value} (h : ReG w0 g n c xs w) (hb : Below w.heap.size w w') : ReG w0 g n c xs w' :=
  ⟨h.bel.trans (hb.mono h.bel.size), Nat.lt_of_lt_of_le h.lt hb.size, own_belS h.own hb⟩
theorem ReG.kept {w0 w w' : World} {g n c : Nat} {xs : List Value} (h : ReG w0 g n c xs w) (hk : Kept2 g w w') (hb : Below w0.heap.size w w') (ho : w'.ownsRow w0.heap.size 5 1 (.slice (some ⟨g, 0, none⟩) n c) n xs) : ReG w0 g n c xs w' :=
  ⟨h.bel.trans hb, Nat.lt_of_lt_of_le h.lt hk.size, ho⟩
def reF (B bx b3 ok g4 n c4 k m cc : Nat) (kd : Int) (q1 q2 : Nat) (C : Option Addr) (xs : List Value) (j : Nat) (v _u : Value) (w : World) : Prop := match j with
  | 0 => v = .slice (some ⟨g4, 0, none⟩) n c4
  | 1 => v = .pointer (some ⟨bx, 3, none⟩)
  | 2 => v = .slice C m cc
  | 3 => v = .int .i64 (k : Int)
  | 4 => v = .int .i64 ((k : Int) + 1)
  | 5 => v = .pointer (some ⟨b3, ok, none⟩)
  | 6 => v = .int .i64 kd
  | 7 => v = .int .i64 (q1 : Int)
  | 8 => v = .int .u8 (q1 : Int)
  | 9 => v = .pointer (some ⟨bx, 3, none⟩)
  | 10 => v = .slice C m cc
  | 11 => v = .int .i64 (k : Int)
  | 12 => v = .int .i64 ((k : Int) + 1)
  | 13 => v = .pointer (some ⟨b3, ok, none⟩)
  | 14 => v = .int .i64 kd
  | 15 => v = .int .i64 (q2 : Int)
  | 16 => v = .int .u8 (q2 : Int)
  | 17 => ∃ g, v = .slice (some ⟨g, 0, none⟩) 2 2 ∧ g ≠ g4 ∧ Bk w g 5 #[.int .u8 (q1 : Int), .int .u8 (q2 : Int)]
  | 18 => w.ownsRow B 5 1 v (n + 2) (xs ++ [.int .u8 (q1 : Int), .int .u8 (q2 : Int)])
  | 19 => w.ownsRow B 5 1 v (n + 2) (xs ++ [.int .u8 (q1 : Int), .int .u8 (q2 : Int)])
  | _ => True
theorem reF_bel {B bx b3 ok g4 n c4 k m cc : Nat} {kd : Int} {q1 q2 : Nat} {C : Option Addr} {xs : List Value} {w w' : World} (hb : Below w.heap.size w w') : ∀ j u u', reF B bx b3 ok g4 n c4 k m cc kd q1 q2 C xs j u u' w → reF B bx b3 ok g4 n c4 k m cc kd q1 q2 C xs j u u' w' := by
  intro j u u' h
  unfold reF at *
  split at h <;> first | exact h | exact own_belS h hb | skip
  · obtain ⟨g, hv, hg, hc⟩ := h
    exact ⟨g, hv, hg, hc.bel hb⟩
theorem reF_kept {B bx b3 ok g4 n c4 k m cc : Nat} {kd : Int} {q1 q2 : Nat} {C : Option Addr} {xs : List Value} {w w' : World} (hk : Kept2 g4 w w') : ∀ j, j ≠ 18 → j ≠ 19 → ∀ u u', reF B bx b3 ok g4 n c4 k m cc kd q1 q2 C xs j u u' w → reF B bx b3 ok g4 n c4 k m cc kd q1 q2 C xs j u u' w' := by
  intro j h8 h9 u u' h
  unfold reF at *
  split at h <;> first | exact h | exact absurd rfl h8 | exact absurd rfl h9 | skip
  · obtain ⟨g, hv, hg, hc⟩ := h
    exact ⟨g, hv, hg, (hk.block g hc.lt hg).trans hc⟩
def lenV : Value → Nat
  | .slice _ n _ => n
  | _ => 0
theorem textN_eq (s : ByteArray) (h : s.size < 256) : textN s = [s.size] ++ bytesN s := by unfold textN; rw [Nat.mod_eq_of_lt h]; rfl
set_option maxRecDepth 100000 in
set_option maxHeartbeats 4000000 in
theorem renc_leaf (ks vs : List ByteArray) (cs : List Int) (A B C : Option Addr) (nk ca nv cb nc cc : Nat) (w : World) (h : Nd w ⟨true, ks, vs, cs⟩ A B C nk ca nv cb nc cc) (hf : formB ⟨true, ks, vs, cs⟩ = true) (hs : sizeN ⟨true, ks, vs, cs⟩ ≤ 256) :
    Calls Try.prog 17 #[.agg #[.bool true, .slice A nk ca, .slice B nv cb, .slice C nc cc]] w fun e w' => (∃ A' c', e = .returned (.slice A' 256 c') ∧ 256 ≤ c' ∧ Seg w' A' (u8s (encB ⟨true, ks, vs, cs⟩))) ∧ Below w.heap.size w w' := by
  obtain ⟨i0, hi0, hz0, hz1, hz2⟩ := info_parts info5
  have H := Lib.hid h
  have HF := Lib.hid hf
  have HSz := Lib.hid hs
  have HEK := Lib.hid h.ek
  have hnk : nk ≤ 255 := by
    have h1 := sumN_ge hf ks.length (Nat.le_refl _)
    have h2 : headN true + sumN ⟨true, ks, vs, cs⟩ ks.length ≤ 256 := hs
    have h3 : 2 ≤ headN true := by decide
    have h4 : nk = ks.length := h.ek
    omega
  obtain ⟨e1, e2⟩ := form_leaf_eq hf
  have hkv : nv = nk := by have := h.ev; have := h.ek; simp at *; omega
  obtain rfl : nv = nk := hkv
  obtain ⟨W0, hW0⟩ : ∃ W0, W0 = w.alloc (.cells #[.bool true, .slice A nv ca, .slice B nv cb, .slice C nc cc] 25) := ⟨_, rfl⟩
  have B0 : Below w.heap.size w W0 := by rw [hW0]; exact (Below.refl _ _).alloc (Nat.le_refl _) _
  have X0 : Bk W0 w.heap.size 25 #[.bool true, .slice A nv ca, .slice B nv cb, .slice C nc cc] := by rw [hW0]; exact Bk.new w _ _
  have HB0 := Lib.hid B0
  have HX0 := Lib.hid X0
  have HW0 := Lib.hid hW0
  have HN0 := Lib.hid (h.bel B0)
  have x0 : W0.cell? ⟨w.heap.size, 0, none⟩ = some (.bool true) := X0.cell 0
  have x1 : W0.cell? ⟨w.heap.size, 1, none⟩ = some (.slice A nv ca) := X0.cell 1
  have hsz0 : w.heap.size < W0.heap.size := X0.lt
  have HR0 := Lib.hid (show (W0.alloc (.cells #[.int .u8 1, .int .u8 (nv : Int)] 5)).ownsRow W0.heap.size 5 1 (.slice (some ⟨W0.heap.size, 0, none⟩) 2 2) (encTo ⟨true, ks, vs, cs⟩ 0).length (u8s (encTo ⟨true, ks, vs, cs⟩ 0)) by
    have he : encTo ⟨true, ks, vs, cs⟩ 0 = [1, nv] := by
      show headB ⟨true, ks, vs, cs⟩ = _
      unfold headB
      rw [if_pos rfl]
      show [1, ks.length % 256] = _
      have h4 : nv = ks.length := HEK.out
      rw [← h4, Nat.mod_eq_of_lt (by omega)]
    rw [he]
    exact World.ownsRow_lit W0 #[.int .u8 1, .int .u8 (nv : Int)] 2 (Nat.le_refl _) (by decide) rfl)
  have HBR := Lib.hid ((Below.refl W0.heap.size W0).alloc (Nat.le_refl _) (.cells #[.int .u8 1, .int .u8 (nv : Int)] 5))
  clear h hf hs hW0 B0 X0 e1 e2
  go_enter Try.func17, Try.ntmps17
  go_upto_region 1 with fail
  rw [← HW0.out]
  go_wp2_with fail
  generalize W0.alloc (.cells #[.int .u8 1, .int .u8 (nv : Int)] 5) = W1 at *
  go_loopw [3, 34] (fun v i wr => ∃ k : Nat, k ≤ nv ∧ i = .int .i64 k ∧ wr.ownsRow W0.heap.size 5 1 v (encTo ⟨true, ks, vs, cs⟩ k).length (u8s (encTo ⟨true, ks, vs, cs⟩ k)) ∧ Below W0.heap.size W0 wr) (fun _ i _ => nv - (intOf i).toNat)
  case atStart => exact ⟨0, by omega, rfl, HR0.out, HBR.out⟩
  case round =>
    clear HR0 HBR x0 x1
    obtain ⟨k, hk, rfl, hown, hb⟩ := hrel
    have HO := Lib.hid hown
    have HB := Lib.hid hb
    have hsz := hb.size
    obtain ⟨Ab, cbb, rfl, hcb, _⟩ := own_shape hown
    have X := HX0.out.bel hb
    have x0 : wr.cell? ⟨w.heap.size, 0, none⟩ = some (.bool true) := X.cell 0
    have x1 : wr.cell? ⟨w.heap.size, 1, none⟩ = some (.slice A nv ca) := X.cell 1
    have x2 : wr.cell? ⟨w.heap.size, 2, none⟩ = some (.slice B nv cb) := X.cell 2
    have x3 : wr.cell? ⟨w.heap.size, 3, none⟩ = some (.slice C nc cc) := X.cell 3
    have HXr := Lib.hid X
    clear hown hb X
    by_cases hlt : k < nv
    · have hkk : k < ks.length := by have h4 : nv = ks.length := HEK.out; omega
      have hkv : k < vs.length := by have h4 : nv = vs.length := H.out.ev; omega
      obtain ⟨b1, o1, rfl, hb1, c1⟩ := HN0.out.sk.str (k := k) hkk
      obtain ⟨b2, o2, rfl, hb2, c2⟩ := HN0.out.sv.str (k := k) hkv
      have r1 := keyOk_size (form_keys HF.out) _ (List.getElem_mem hkk)
      have r2 := form_vals HF.out _ (List.getElem_mem hkv)
      have hroom := enc_room HF.out HSz.out k hkk
      have hpiece := piece_leaf (cs := cs) k hkk hkv
      have hstep : encTo ⟨true, ks, vs, cs⟩ (k + 1) = encTo ⟨true, ks, vs, cs⟩ k ++ pieceB ⟨true, ks, vs, cs⟩ k := rfl
      simp only at c1 c2
      generalize ks[k] = s at *
      generalize vs[k] = t at *
      rw [hpiece, textN_eq s (by omega), textN_eq t (by omega)] at hstep hroom
      have HST := Lib.hid hstep
      simp only [List.length_append, List.length_singleton, bytesN_length] at hroom
      have d1 := (HB.out.cell (p := ⟨b1, o1 + k, none⟩) hb1).trans c1
      clear hpiece hstep
      obtain ⟨E, hE⟩ : ∃ E, E = encTo ⟨true, ks, vs, cs⟩ k := ⟨_, rfl⟩
      rw [← hE] at HO HST hroom hcb ⊢
      clear hE
      obtain ⟨L, hL⟩ : ∃ L, L = E.length := ⟨_, rfl⟩
      rw [← hL] at HO hroom hcb ⊢
      have HL := Lib.hid hL
      clear hL
      have i1 : (k : Int) < (nv : Int) := by omega
      have cv1 := fun w => Lib.run_convert_string_bytes (P := Try.prog) w 9 27 5 s Try.underlying9 Try.underlying27 Try.underlying5
      have cv2 := fun w => Lib.run_convert_string_bytes (P := Try.prog) w 9 27 5 t Try.underlying9 Try.underlying27 Try.underlying5
      go_upto_region 8 with (at_builtin; refine wpList_append_seg _ rfl (.tmp 39) (.tmp 43) _ rfl W0.heap.size 5 i0 _ 1 Try.underlying27 hi0 hz0 hz1 hz2 rfl _ L _ rfl (own_alloc HO.out _) (some ⟨wr.heap.size, 0, none⟩) 1 1 [.int .u8 (s.size : Int)] rfl rfl (seg_new _ _ _) (by simp [Value.oneCell']) (by simp only [maxLen]; omega) (by omega) (by simp only [World.size_alloc]; omega) ?_; intro v1 w1 hown1 hb1; have O1 := Lib.hid hown1; have BB1 := Lib.hid ((HB.out.alloc hsz (.cells #[.int .u8 (s.size : Int)] 5)).trans hb1); have z1 := BB1.out.size; clear hown1 hb1)
      clear d1 x0 x1 x2 x3
      go_upto_region 9 with (at_builtin; refine wpList_append_seg _ rfl (.tmp 45) (.tmp 47) _ rfl W0.heap.size 5 i0 _ 1 Try.underlying27 hi0 hz0 hz1 hz2 rfl _ (L + 1) _ rfl (own_belS O1.out (bw_bel w1 s)) (some ⟨w1.heap.size, 0, none⟩) s.size _ (u8s (bytesN s)) rfl (by rw [u8s_length, bytesN_length]) (bw_seg w1 s) (u8s_one _) (by simp only [maxLen]; omega) (by omega) (by rw [Lib.bytesWorld_size]; omega) ?_; intro v2 w2 hown2 hb2'; have O2 := Lib.hid hown2; have BB2 := Lib.hid ((BB1.out.trans ((bw_bel w1 s).mono z1)).trans hb2'); have z2 := BB2.out.size; clear hown2 hb2')
      have X := HX0.out.bel BB2.out
      have x0 : w2.cell? ⟨w.heap.size, 0, none⟩ = some (.bool true) := X.cell 0
      have x1 : w2.cell? ⟨w.heap.size, 1, none⟩ = some (.slice (some ⟨b1, o1, none⟩) nv ca) := X.cell 1
      have x2 : w2.cell? ⟨w.heap.size, 2, none⟩ = some (.slice (some ⟨b2, o2, none⟩) nv cb) := X.cell 2
      have e2 := (BB2.out.cell (p := ⟨b2, o2 + k, none⟩) hb2).trans c2
      clear X
      go_upto_region 11 with (at_builtin; refine wpList_append_seg _ rfl (.tmp 51) (.tmp 59) _ rfl W0.heap.size 5 i0 _ 1 Try.underlying27 hi0 hz0 hz1 hz2 rfl _ (L + 1 + s.size) _ rfl (own_alloc O2.out _) (some ⟨w2.heap.size, 0, none⟩) 1 1 [.int .u8 (t.size : Int)] rfl rfl (seg_new _ _ _) (by simp [Value.oneCell']) (by simp only [maxLen]; omega) (by omega) (by simp only [World.size_alloc]; omega) ?_; intro v3 w3 hown3 hb3; have O3 := Lib.hid hown3; have BB3 := Lib.hid ((BB2.out.alloc z2 (.cells #[.int .u8 (t.size : Int)] 5)).trans hb3); have z3 := BB3.out.size; clear hown3 hb3)
      clear x0 x1 x2 e2
      have X := HX0.out.bel BB3.out
      have x0 : w3.cell? ⟨w.heap.size, 0, none⟩ = some (.bool true) := X.cell 0
      have x1 : w3.cell? ⟨w.heap.size, 1, none⟩ = some (.slice (some ⟨b1, o1, none⟩) nv ca) := X.cell 1
      have x2 : w3.cell? ⟨w.heap.size, 2, none⟩ = some (.slice (some ⟨b2, o2, none⟩) nv cb) := X.cell 2
      have e2 := (BB3.out.cell (p := ⟨b2, o2 + k, none⟩) hb2).trans c2
      clear X
      go_wp2_with (at_builtin; refine wpList_append_seg _ rfl (.tmp 61) (.tmp 67) _ rfl W0.heap.size 5 i0 _ 1 Try.underlying27 hi0 hz0 hz1 hz2 rfl _ (L + 1 + s.size + 1) _ rfl (own_belS O3.out (bw_bel w3 t)) (some ⟨w3.heap.size, 0, none⟩) t.size _ (u8s (bytesN t)) rfl (by rw [u8s_length, bytesN_length]) (bw_seg w3 t) (u8s_one _) (by simp only [maxLen]; omega) (by omega) (by rw [Lib.bytesWorld_size]; omega) ?_; intro v4 w4 hown4 hb4; have O4 := Lib.hid hown4; have BB4 := Lib.hid ((BB3.out.trans ((bw_bel w3 t).mono z3)).trans hb4); clear hown4 hb4)
      go_roundw
      case rel =>
        refine ⟨k + 1, by omega, by go_num, ?_, BB4.out⟩
        have ho := O4.out
        have el : L + 1 + s.size + 1 + t.size = (encTo ⟨true, ks, vs, cs⟩ (k + 1)).length := by rw [HST.out]; simp only [List.length_append, List.length_singleton, bytesN_length]; have := HL.out; omega
        have ec : u8s E ++ [Value.int .u8 (s.size : Int)] ++ u8s (bytesN s) ++ [Value.int .u8 (t.size : Int)] ++ u8s (bytesN t) = u8s (encTo ⟨true, ks, vs, cs⟩ (k + 1)) := by rw [HST.out]; simp [u8s]
        rw [el, ec] at ho
        exact ho
      case measure => simp [intOf]; omega
    · obtain rfl : k = nv := by omega
      have hlen : (encTo ⟨true, ks, vs, cs⟩ k).length ≤ 256 := by
        have h4 : k = ks.length := HEK.out
        have h5 : (encTo ⟨true, ks, vs, cs⟩ k).length = headN true + sumN ⟨true, ks, vs, cs⟩ k := encTo_length (form_vk HF.out) k (by show k ≤ ks.length; omega)
        have h6 : headN true + sumN ⟨true, ks, vs, cs⟩ ks.length ≤ 256 := HSz.out
        rw [← h4] at h6
        omega
      have HEnc := Lib.hid (show encB ⟨true, ks, vs, cs⟩ = padB (encTo ⟨true, ks, vs, cs⟩ k) by unfold encB; have h4 : k = ks.length := HEK.out; rw [h4])
      generalize encTo ⟨true, ks, vs, cs⟩ k = E at *
      obtain ⟨L, hL⟩ : ∃ L, L = E.length := ⟨_, rfl⟩
      have HO0 := Lib.hid (show wr.ownsRow W0.heap.size 5 1 (.slice Ab E.length cbb) (L + 0) (u8s (E ++ List.replicate 0 0)) by rw [Nat.add_zero, hL]; simpa using HO.out)
      rw [← hL] at HO0 hlen hcb ⊢
      have HL := Lib.hid hL
      clear hL HO x0 x1 x2 x3
      go_wp2_with fail
      go_loopw [3] (fun v wq => ∃ j : Nat, L + j ≤ 256 ∧ wq.ownsRow W0.heap.size 5 1 v (L + j) (u8s (E ++ List.replicate j 0)) ∧ Below W0.heap.size W0 wq) (fun v _ => 256 - lenV v)
      case atStart => exact ⟨0, by omega, HO0.out, HB.out⟩
      case round =>
        clear HO0
        obtain ⟨j, hj, hown, hbq⟩ := hrel
        obtain ⟨A1, c1, rfl, hc1, s1⟩ := own_shape hown
        have HO1 := Lib.hid hown
        have HB1 := Lib.hid hbq
        have hsz1 := hbq.size
        have HS1 := Lib.hid s1
        clear hown hbq s1
        by_cases hlt2 : L + j < 256
        · have i2 : (L : Int) + (j : Int) < 256 := by omega
          go_wp2_with (at_builtin; refine wpList_append_seg _ rfl _ _ _ rfl W0.heap.size 5 i0 _ 1 Try.underlying27 hi0 hz0 hz1 hz2 rfl _ (L + j) _ rfl (own_alloc HO1.out _) (some ⟨wr.heap.size, 0, none⟩) 1 1 [.int .u8 0] rfl rfl (seg_new _ _ _) (by simp [Value.oneCell']) (by simp only [maxLen]; omega) (by omega) (by simp only [World.size_alloc]; omega) ?_; intro v' w' hown' hb')
          obtain ⟨A', c', rfl, hc', _⟩ := own_shape hown'
          go_roundw
          case rel =>
            refine ⟨j + 1, by omega, ?_, (HB1.out.alloc hsz1 _).trans hb'⟩
            rw [show u8s (E ++ List.replicate j 0) ++ [Value.int .u8 0] = u8s (E ++ List.replicate (j + 1) 0) by rw [List.replicate_succ']; simp [u8s]] at hown'
            exact hown'
          case measure => simp [lenV]; omega
        · have hj2 : L + j = 256 := by omega
          rw [hj2] at hc1 ⊢
          have HJ := Lib.hid (show j = 256 - E.length by have := HL.out; omega)
          clear hj2 hlt2
          go_wp2_with fail
          go_ret
          refine ⟨⟨A1, c1, rfl, hc1, ?_⟩, HB0.out.trans (HB1.out.mono (by omega))⟩
          rw [HEnc.out]
          unfold padB
          rw [← HJ.out]
          exact HS1.out
set_option maxRecDepth 100000 in
set_option maxHeartbeats 4000000 in
theorem renc_branch (ks vs : List ByteArray) (cs : List Int) (A B C : Option Addr) (nk ca nv cb nc cc : Nat) (w : World) (h : Nd w ⟨false, ks, vs, cs⟩ A B C nk ca nv cb nc cc) (hf : formB ⟨false, ks, vs, cs⟩ = true) (hs : sizeN ⟨false, ks, vs, cs⟩ ≤ 256) :
    Calls Try.prog 17 #[.agg #[.bool false, .slice A nk ca, .slice B nv cb, .slice C nc cc]] w fun e w' => (∃ A' c', e = .returned (.slice A' 256 c') ∧ 256 ≤ c' ∧ Seg w' A' (u8s (encB ⟨false, ks, vs, cs⟩))) ∧ Below w.heap.size w w' := by
  obtain ⟨i0, hi0, hz0, hz1, hz2⟩ := info_parts info5
  have H := Lib.hid h
  have HF := Lib.hid hf
  have HSz := Lib.hid hs
  have HEK := Lib.hid h.ek
  have hnk : nk ≤ 255 := by
    have h1 := sumN_ge hf ks.length (Nat.le_refl _)
    have h2 : headN false + sumN ⟨false, ks, vs, cs⟩ ks.length ≤ 256 := hs
    have h3 : 2 ≤ headN false := by decide
    have h4 : nk = ks.length := h.ek
    omega
  obtain ⟨e0, e1, e2⟩ := form_branch_eq hf
  have hkc : nc = nk + 1 := by have := h.ec; have := h.ek; simp at *; omega
  subst hkc
  have hkpos : 0 < nk := by have := h.ek; simp at this; omega
  obtain ⟨W0, hW0⟩ : ∃ W0, W0 = w.alloc (.cells #[.bool false, .slice A nk ca, .slice B nv cb, .slice C (nk + 1) cc] 25) := ⟨_, rfl⟩
  have B0 : Below w.heap.size w W0 := by rw [hW0]; exact (Below.refl _ _).alloc (Nat.le_refl _) _
  have X0 : Bk W0 w.heap.size 25 #[.bool false, .slice A nk ca, .slice B nv cb, .slice C (nk + 1) cc] := by rw [hW0]; exact Bk.new w _ _
  have HB0 := Lib.hid B0
  have HX0 := Lib.hid X0
  have HW0 := Lib.hid hW0
  have HN0 := Lib.hid (h.bel B0)
  have x0 : W0.cell? ⟨w.heap.size, 0, none⟩ = some (.bool false) := X0.cell 0
  have x1 : W0.cell? ⟨w.heap.size, 1, none⟩ = some (.slice A nk ca) := X0.cell 1
  have hsz0 : w.heap.size < W0.heap.size := X0.lt
  obtain ⟨b3, o3, hC, hb3, c3⟩ := (h.bel B0).sc.i64 (k := 0) (by show 0 < cs.length; omega)
  have hc0 : 0 < cs.length := by omega
  have hkb : 0 ≤ cs[0] ∧ cs[0] ≤ 2047 := form_kids hf rfl _ (List.getElem_mem _)
  obtain ⟨p, hp⟩ : ∃ p : Nat, p = (cs[0] % 256).toNat := ⟨_, rfl⟩
  obtain ⟨r, hr⟩ : ∃ r : Nat, r = (cs[0] / 256 % 256).toNat := ⟨_, rfl⟩
  have HR0 := Lib.hid (show ∀ W2 : World, W0.heap.size ≤ W2.heap.size → (W2.alloc (.cells #[.int .u8 2, .int .u8 (nk : Int), .int .u8 (p : Int), .int .u8 (r : Int)] 5)).ownsRow W0.heap.size 5 1 (.slice (some ⟨W2.heap.size, 0, none⟩) 4 4) (encTo ⟨false, ks, vs, cs⟩ 0).length (u8s (encTo ⟨false, ks, vs, cs⟩ 0)) from fun W2 hW2 => by
    have he : encTo ⟨false, ks, vs, cs⟩ 0 = [2, nk, p, r] := by
      show headB ⟨false, ks, vs, cs⟩ = _
      unfold headB kidB
      rw [if_neg (by show ¬ (false = true); decide)]
      show [2, ks.length % 256] ++ [(cs.getD 0 0 % 256).toNat, (cs.getD 0 0 / 256 % 256).toNat] = _
      have h4 : nk = ks.length := HEK.out
      rw [← h4, Nat.mod_eq_of_lt (by omega), show cs.getD 0 0 = cs[0] by simp [hc0], ← hp, ← hr]
      rfl
    rw [he]
    exact World.ownsRow_lit W2 #[.int .u8 2, .int .u8 (nk : Int), .int .u8 (p : Int), .int .u8 (r : Int)] 4 hW2 (by decide) rfl)
  have c3 : W0.cell? ⟨b3, o3, none⟩ = some (.int .i64 cs[0]) := c3
  generalize cs[0] = kd at *
  subst hC
  have p1 : kd.tmod 256 = (p : Int) := by rw [Int.tmod_eq_emod_of_nonneg hkb.1]; omega
  have p2 : kd.tdiv 256 = (r : Int) := by rw [Int.tdiv_eq_ediv_of_nonneg hkb.1]; omega
  have p3 : p < 256 := by omega
  have p4 : r < 256 := by omega
  have p5 : IntKind.u8.wrap (p : Int) = (p : Int) := by rw [IntKind.wrap_u8']; omega
  have p6 : IntKind.u8.wrap (r : Int) = (r : Int) := by rw [IntKind.wrap_u8']; omega
  have p7 : IntKind.u8.wrap (nk : Int) = (nk : Int) := by rw [IntKind.wrap_u8']; omega
  have p8 : IntKind.i64.wrap (r : Int) = (r : Int) := IntWalk.i64_in _ (by omega)
  have p9 : wrap64 (r : Int) = (r : Int) := IntWalk.wrap64_in _ (by omega)
  obtain ⟨W1, hW1⟩ : ∃ W1, W1 = W0.alloc (.cells #[.int .u8 1, .int .u8 (nk : Int)] 5) := ⟨_, rfl⟩
  have B1 : Below W0.heap.size W0 W1 := by rw [hW1]; exact (Below.refl _ _).alloc (Nat.le_refl _) _
  have X1 := X0.bel B1
  have HB1 := Lib.hid B1
  have HW1 := Lib.hid hW1
  have y1 : W1.cell? ⟨w.heap.size, 1, none⟩ = some (.slice A nk ca) := X1.cell 1
  have y3 : W1.cell? ⟨w.heap.size, 3, none⟩ = some (.slice (some ⟨b3, o3, none⟩) (nk + 1) cc) := X1.cell 3
  have y4 : W1.cell? ⟨b3, o3, none⟩ = some (.int .i64 kd) := (B1.cell (p := ⟨b3, o3, none⟩) hb3).trans c3
  have z1 := B1.size
  clear h hf hs hW0 hW1 B0 B1 X0 X1 e0 e1 e2 hp hr hkb c3
  go_enter Try.func17, Try.ntmps17
  go_upto_region 1 with fail
  rw [← HW0.out]
  go_upto_region 3 with fail
  rw [← HW1.out]
  go_still_tail 16, (by kernel_rfl)
  change wpList _ _ _ _ _ W1.drew
  clear y1 y3 y4 p1 p2 p5 p6 p7 p8 p9 x0 x1
  have HB2 := Lib.hid HB1.out.drew
  have zz : W0.heap.size ≤ W1.drew.heap.size := z1
  generalize W1.drew = W2 at *
  have HR1 := Lib.hid (HR0.out W2 zz)
  have HBR := Lib.hid (HB2.out.alloc zz (.cells #[.int .u8 2, .int .u8 (nk : Int), .int .u8 (p : Int), .int .u8 (r : Int)] 5))
  have x1 : (W2.alloc (.cells #[.int .u8 2, .int .u8 (nk : Int), .int .u8 (p : Int), .int .u8 (r : Int)] 5)).cell? ⟨w.heap.size, 1, none⟩ = some (.slice A nk ca) := (HX0.out.bel HBR.out).cell 1
  go_wp2_with fail
  generalize W2.alloc (.cells #[.int .u8 2, .int .u8 (nk : Int), .int .u8 (p : Int), .int .u8 (r : Int)] 5) = W3 at *
  go_loopw [3, 34] (fun v i wr => ∃ k : Nat, k ≤ nk ∧ i = .int .i64 k ∧ wr.ownsRow W0.heap.size 5 1 v (encTo ⟨false, ks, vs, cs⟩ k).length (u8s (encTo ⟨false, ks, vs, cs⟩ k)) ∧ Below W0.heap.size W0 wr) (fun _ i _ => nk - (intOf i).toNat)
  case atStart => exact ⟨0, by omega, rfl, HR1.out, HBR.out⟩
  case round =>
    clear HR0 HR1 HBR x1
    obtain ⟨k, hk, rfl, hown, hb⟩ := hrel
    have HO := Lib.hid hown
    have HB := Lib.hid hb
    have hsz := hb.size
    obtain ⟨Ab, cbb, rfl, hcb, _⟩ := own_shape hown
    have X := HX0.out.bel hb
    have x0 : wr.cell? ⟨w.heap.size, 0, none⟩ = some (.bool false) := X.cell 0
    have x1 : wr.cell? ⟨w.heap.size, 1, none⟩ = some (.slice A nk ca) := X.cell 1
    have x2 : wr.cell? ⟨w.heap.size, 2, none⟩ = some (.slice B nv cb) := X.cell 2
    have x3 : wr.cell? ⟨w.heap.size, 3, none⟩ = some (.slice (some ⟨b3, o3, none⟩) (nk + 1) cc) := X.cell 3
    have HXr := Lib.hid X
    clear hown hb X
    by_cases hlt : k < nk
    · have hkk : k < ks.length := by have h4 : nk = ks.length := HEK.out; omega
      have hkc : k + 1 < cs.length := by have h4 : nk + 1 = cs.length := H.out.ec; omega
      obtain ⟨b1, o1, hAe, hb1, c1⟩ := HN0.out.sk.str (k := k) hkk
      obtain ⟨b4, o4, hCe, hb4, c4⟩ := HN0.out.sc.i64 (k := k + 1) hkc
      injection hCe with hCe
      injection hCe with hC1 hC2
      subst hC1; subst hC2
      subst hAe
      have r1 := keyOk_size (form_keys HF.out) _ (List.getElem_mem hkk)
      have hkb : 0 ≤ cs[k + 1] ∧ cs[k + 1] ≤ 2047 := form_kids HF.out rfl _ (List.getElem_mem hkc)
      have hroom := enc_room HF.out HSz.out k hkk
      have hpiece := piece_branch (vs := vs) k hkk hkc
      have hstep : encTo ⟨false, ks, vs, cs⟩ (k + 1) = encTo ⟨false, ks, vs, cs⟩ k ++ pieceB ⟨false, ks, vs, cs⟩ k := rfl
      have c1 : W0.cell? ⟨b1, o1 + k, none⟩ = some (.string ks[k]) := c1
      have c4 : W0.cell? ⟨b3, o3 + (k + 1), none⟩ = some (.int .i64 cs[k + 1]) := c4
      obtain ⟨q1, hq1⟩ : ∃ q1 : Nat, q1 = (cs[k + 1] % 256).toNat := ⟨_, rfl⟩
      obtain ⟨q2, hq2⟩ : ∃ q2 : Nat, q2 = (cs[k + 1] / 256 % 256).toNat := ⟨_, rfl⟩
      have hkd : kidB cs[k + 1] = [q1, q2] := by unfold kidB; rw [← hq1, ← hq2]
      rw [hpiece, hkd, textN_eq _ (by omega)] at hstep hroom
      generalize ks[k] = s at *
      generalize cs[k + 1] = kd at *
      have HST := Lib.hid hstep
      simp only [List.length_append, List.length_cons, List.length_nil, bytesN_length] at hroom
      have d1 := (HB.out.cell (p := ⟨b1, o1 + k, none⟩) hb1).trans c1
      have m1 : kd.tmod 256 = (q1 : Int) := by rw [Int.tmod_eq_emod_of_nonneg hkb.1]; omega
      have m2 : kd.tdiv 256 = (q2 : Int) := by rw [Int.tdiv_eq_ediv_of_nonneg hkb.1]; omega
      have m5 : IntKind.u8.wrap (q1 : Int) = (q1 : Int) := by rw [IntKind.wrap_u8']; omega
      have m6 : IntKind.u8.wrap (q2 : Int) = (q2 : Int) := by rw [IntKind.wrap_u8']; omega
      have m3 : q1 < 256 := by omega
      have m4 : q2 < 256 := by omega
      have n1 : IntKind.i64.wrap (q2 : Int) = (q2 : Int) := IntWalk.i64_in _ (by omega)
      have n2 : wrap64 (q2 : Int) = (q2 : Int) := IntWalk.wrap64_in _ (by omega)
      have m7 : IntKind.i64.wrap ((k : Int) + 1) = (k : Int) + 1 := IntWalk.i64_in _ (by omega)
      have m8 : (0 : Int) ≤ (k : Int) + 1 := by omega
      have m9 : (k : Int) + 1 < (nk : Int) + 1 := by omega
      have m10 : ((k : Int) + 1).toNat = k + 1 := by omega
      have M := Lib.hid (And.intro m1 (And.intro m2 (And.intro m5 (And.intro m6 (And.intro m7 (And.intro m8 (And.intro m9 (And.intro m10 (And.intro n1 n2)))))))))
      clear hpiece hstep hkd hq1 hq2 m1 m2 m5 m6 m7 m8 m9 m10 n1 n2
      obtain ⟨E, hE⟩ : ∃ E, E = encTo ⟨false, ks, vs, cs⟩ k := ⟨_, rfl⟩
      rw [← hE] at HO HST hroom hcb ⊢
      clear hE
      obtain ⟨L, hL⟩ : ∃ L, L = E.length := ⟨_, rfl⟩
      rw [← hL] at HO hroom hcb ⊢
      have HL := Lib.hid hL
      clear hL
      have i1 : (k : Int) < (nk : Int) := by omega
      have cv1 := fun w => Lib.run_convert_string_bytes (P := Try.prog) w 9 27 5 s Try.underlying9 Try.underlying27 Try.underlying5
      go_upto_region 8 with (at_builtin; refine wpList_append_seg _ rfl (.tmp 39) (.tmp 43) _ rfl W0.heap.size 5 i0 _ 1 Try.underlying27 hi0 hz0 hz1 hz2 rfl _ L _ rfl (own_alloc HO.out _) (some ⟨wr.heap.size, 0, none⟩) 1 1 [.int .u8 (s.size : Int)] rfl rfl (seg_new _ _ _) (by simp [Value.oneCell']) (by simp only [maxLen]; omega) (by omega) (by simp only [World.size_alloc]; omega) ?_; intro v1 w1 hown1 hb1'; have O1 := Lib.hid hown1; have BB1 := Lib.hid ((HB.out.alloc hsz (.cells #[.int .u8 (s.size : Int)] 5)).trans hb1'); have z1 := BB1.out.size; clear hown1 hb1')
      clear d1 x0 x1 x2 x3
      go_upto_region 9 with (at_builtin; refine wpList_append_seg _ rfl (.tmp 45) (.tmp 47) _ rfl W0.heap.size 5 i0 _ 1 Try.underlying27 hi0 hz0 hz1 hz2 rfl _ (L + 1) _ rfl (own_belS O1.out (bw_bel w1 s)) (some ⟨w1.heap.size, 0, none⟩) s.size _ (u8s (bytesN s)) rfl (by rw [u8s_length, bytesN_length]) (bw_seg w1 s) (u8s_one _) (by simp only [maxLen]; omega) (by omega) (by rw [Lib.bytesWorld_size]; omega) ?_; intro v2 w2 hown2 hb2'; have O2 := Lib.hid hown2; have BB2 := Lib.hid ((BB1.out.trans ((bw_bel w1 s).mono z1)).trans hb2'); have z2 := BB2.out.size; clear hown2 hb2')
      have X := HX0.out.bel BB2.out
      have x0 : w2.cell? ⟨w.heap.size, 0, none⟩ = some (.bool false) := X.cell 0
      have x3 : w2.cell? ⟨w.heap.size, 3, none⟩ = some (.slice (some ⟨b3, o3, none⟩) (nk + 1) cc) := X.cell 3
      have e4 := (BB2.out.cell (p := ⟨b3, o3 + (k + 1), none⟩) hb4).trans c4
      obtain ⟨g4, c4', rfl, hg4, hl4⟩ := World.ownsRow.form O2.out (by omega)
      have G0 := Lib.hid (show ReG W0 g4 (L + 1 + s.size) c4' (u8s E ++ [Value.int .u8 (s.size : Int)] ++ u8s (bytesN s)) w2.drew from ⟨BB2.out.drew, hl4, own_belS O2.out (Below.refl _ _).drew⟩)
      obtain ⟨m1, m2, m5, m6, m7, m8, m9, m10, n1, n2⟩ := M.out
      clear X x3 e4
      go_wp2_with fail
      refine wp_region_was [some 69, some 70, some 71, some 72, some 73, some 74, some 75, some 76, some 77, some 78, some 79, some 80, some 81, some 82, some 83, some 84, some 85, some 86, some 87, some 3] (fun _ => 0) (reF W0.heap.size w.heap.size b3 (o3 + (k + 1)) g4 (L + 1 + s.size) c4' k (nk + 1) cc kd q1 q2 (some ⟨b3, o3, none⟩) (u8s E ++ [Value.int .u8 (s.size : Int)] ++ u8s (bytesN s))) (ReG W0 g4 (L + 1 + s.size) c4' (u8s E ++ [Value.int .u8 (s.size : Int)] ++ u8s (bytesN s))) (by kernel_rfl) G0.out rfl (by kernel_rfl) (by kernel_rfl) (by kernel_rfl) (by kernel_rfl) (fun T hT => ?_)
      simp only [List.filterMap_cons, List.filterMap_nil, id, putsS, Act.put, List.setIfInBounds_toArray, List.set_cons_zero, List.set_cons_succ] at hT
      subst hT
      refine ⟨⟨?_, ?_, ?_, ?_, ?_, ?_, ?_, ?_, ?_, ?_, ?_, ?_, ?_, ?_, ?_, ?_, ?_, ?_, ?_, ?_, trivial⟩, ?_⟩
      · -- 0: Op.move t3
        intro f w1 hG hO hF K hK
        have o3 : f 3 = .slice (some ⟨g4, 0, none⟩) (L + 1 + s.size) c4' := hO 3 (by kernel_rfl)
        clear hO
        clear hF
        dsimp only at hK ⊢
        generalize f 3 = y3 at *
        subst o3
        go_simp
        exact hK.out _ _ hG rfl (fun _ _ _ h => h)
      · -- 1: Op.fieldAddr 25 t1 3
        refine StepA.was ?_
        refine StepL.act ?_
        intro f w1 hG hF K hK
        clear hF
        dsimp only at hK ⊢
        go_simp
        exact hK.out _ _ hG rfl (fun _ _ _ _ h => h)
      · -- 2: Op.load 23 t70
        refine StepA.was ?_
        refine StepL.act ?_
        intro f w1 hG hF K hK
        have d1 : (reF W0.heap.size w.heap.size b3 (o3 + (k + 1)) g4 (L + 1 + s.size) c4' k (nk + 1) cc kd q1 q2 (some ⟨b3, o3, none⟩) (u8s E ++ [Value.int .u8 (s.size : Int)] ++ u8s (bytesN s))) 1 (f 70) (f 0) w1 := hF 1 (by kernel_rfl)
        clear hF
        dsimp only at hK ⊢
        generalize f 70 = v70 at *
        subst d1
        have y : w1.cell? ⟨w.heap.size, 3, none⟩ = some (.slice (some ⟨b3, o3, none⟩) (nk + 1) cc) := (HX0.out.bel hG.bel).cell 3
        go_simp
        exact hK.out _ _ hG rfl (fun _ _ _ _ h => h)
      · -- 3: Op.move t4
        refine StepA.was ?_
        refine StepL.act ?_
        intro f w1 hG hF K hK
        clear hF
        dsimp only at hK ⊢
        go_simp
        exact hK.out _ _ hG rfl (fun _ _ _ _ h => h)
      · -- 4: Op.binOp BinOp.add 3 t72 (const (1:i64)) 3
        refine StepA.was ?_
        refine StepL.act ?_
        intro f w1 hG hF K hK
        have d3 : (reF W0.heap.size w.heap.size b3 (o3 + (k + 1)) g4 (L + 1 + s.size) c4' k (nk + 1) cc kd q1 q2 (some ⟨b3, o3, none⟩) (u8s E ++ [Value.int .u8 (s.size : Int)] ++ u8s (bytesN s))) 3 (f 72) (f 0) w1 := hF 3 (by kernel_rfl)
        clear hF
        dsimp only at hK ⊢
        generalize f 72 = v72 at *
        subst d3
        go_simp
        exact hK.out _ _ hG rfl (fun _ _ _ _ h => h)
      · -- 5: Op.indexAddr 23 t71 t73
        refine StepA.was ?_
        refine StepL.act ?_
        intro f w1 hG hF K hK
        have d2 : (reF W0.heap.size w.heap.size b3 (o3 + (k + 1)) g4 (L + 1 + s.size) c4' k (nk + 1) cc kd q1 q2 (some ⟨b3, o3, none⟩) (u8s E ++ [Value.int .u8 (s.size : Int)] ++ u8s (bytesN s))) 2 (f 71) (f 0) w1 := hF 2 (by kernel_rfl)
        have d4 : (reF W0.heap.size w.heap.size b3 (o3 + (k + 1)) g4 (L + 1 + s.size) c4' k (nk + 1) cc kd q1 q2 (some ⟨b3, o3, none⟩) (u8s E ++ [Value.int .u8 (s.size : Int)] ++ u8s (bytesN s))) 4 (f 73) (f 0) w1 := hF 4 (by kernel_rfl)
        clear hF
        dsimp only at hK ⊢
        generalize f 71 = v71 at *
        generalize f 73 = v73 at *
        subst d2
        subst d4
        go_simp
        exact hK.out _ _ hG rfl (fun _ _ _ _ h => h)
      · -- 6: Op.load 3 t74
        refine StepA.was ?_
        refine StepL.act ?_
        intro f w1 hG hF K hK
        have d5 : (reF W0.heap.size w.heap.size b3 (o3 + (k + 1)) g4 (L + 1 + s.size) c4' k (nk + 1) cc kd q1 q2 (some ⟨b3, o3, none⟩) (u8s E ++ [Value.int .u8 (s.size : Int)] ++ u8s (bytesN s))) 5 (f 74) (f 0) w1 := hF 5 (by kernel_rfl)
        clear hF
        dsimp only at hK ⊢
        generalize f 74 = v74 at *
        subst d5
        have y := (hG.bel.cell (p := ⟨b3, o3 + (k + 1), none⟩) hb4).trans c4
        go_simp
        exact hK.out _ _ hG rfl (fun _ _ _ _ h => h)
      · -- 7: Op.binOp BinOp.rem 3 t75 (const (256:i64)) 3
        refine StepA.was ?_
        refine StepL.act ?_
        intro f w1 hG hF K hK
        have d6 : (reF W0.heap.size w.heap.size b3 (o3 + (k + 1)) g4 (L + 1 + s.size) c4' k (nk + 1) cc kd q1 q2 (some ⟨b3, o3, none⟩) (u8s E ++ [Value.int .u8 (s.size : Int)] ++ u8s (bytesN s))) 6 (f 75) (f 0) w1 := hF 6 (by kernel_rfl)
        clear hF
        dsimp only at hK ⊢
        generalize f 75 = v75 at *
        subst d6
        go_simp
        exact hK.out _ _ hG rfl (fun _ _ _ _ h => h)
      · -- 8: Op.convert 3 5 t76
        refine StepA.was ?_
        refine StepL.act ?_
        intro f w1 hG hF K hK
        have d7 : (reF W0.heap.size w.heap.size b3 (o3 + (k + 1)) g4 (L + 1 + s.size) c4' k (nk + 1) cc kd q1 q2 (some ⟨b3, o3, none⟩) (u8s E ++ [Value.int .u8 (s.size : Int)] ++ u8s (bytesN s))) 7 (f 76) (f 0) w1 := hF 7 (by kernel_rfl)
        clear hF
        dsimp only at hK ⊢
        generalize f 76 = v76 at *
        subst d7
        go_simp
        exact hK.out _ _ hG rfl (fun _ _ _ _ h => h)
      · -- 9: Op.fieldAddr 25 t1 3
        refine StepA.was ?_
        refine StepL.act ?_
        intro f w1 hG hF K hK
        clear hF
        dsimp only at hK ⊢
        go_simp
        exact hK.out _ _ hG rfl (fun _ _ _ _ h => h)
      · -- 10: Op.load 23 t78
        refine StepA.was ?_
        refine StepL.act ?_
        intro f w1 hG hF K hK
        have d9 : (reF W0.heap.size w.heap.size b3 (o3 + (k + 1)) g4 (L + 1 + s.size) c4' k (nk + 1) cc kd q1 q2 (some ⟨b3, o3, none⟩) (u8s E ++ [Value.int .u8 (s.size : Int)] ++ u8s (bytesN s))) 9 (f 78) (f 0) w1 := hF 9 (by kernel_rfl)
        clear hF
        dsimp only at hK ⊢
        generalize f 78 = v78 at *
        subst d9
        have y : w1.cell? ⟨w.heap.size, 3, none⟩ = some (.slice (some ⟨b3, o3, none⟩) (nk + 1) cc) := (HX0.out.bel hG.bel).cell 3
        go_simp
        exact hK.out _ _ hG rfl (fun _ _ _ _ h => h)
      · -- 11: Op.move t4
        refine StepA.was ?_
        refine StepL.act ?_
        intro f w1 hG hF K hK
        clear hF
        dsimp only at hK ⊢
        go_simp
        exact hK.out _ _ hG rfl (fun _ _ _ _ h => h)
      · -- 12: Op.binOp BinOp.add 3 t80 (const (1:i64)) 3
        refine StepA.was ?_
        refine StepL.act ?_
        intro f w1 hG hF K hK
        have d11 : (reF W0.heap.size w.heap.size b3 (o3 + (k + 1)) g4 (L + 1 + s.size) c4' k (nk + 1) cc kd q1 q2 (some ⟨b3, o3, none⟩) (u8s E ++ [Value.int .u8 (s.size : Int)] ++ u8s (bytesN s))) 11 (f 80) (f 0) w1 := hF 11 (by kernel_rfl)
        clear hF
        dsimp only at hK ⊢
        generalize f 80 = v80 at *
        subst d11
        go_simp
        exact hK.out _ _ hG rfl (fun _ _ _ _ h => h)
      · -- 13: Op.indexAddr 23 t79 t81
        refine StepA.was ?_
        refine StepL.act ?_
        intro f w1 hG hF K hK
        have d10 : (reF W0.heap.size w.heap.size b3 (o3 + (k + 1)) g4 (L + 1 + s.size) c4' k (nk + 1) cc kd q1 q2 (some ⟨b3, o3, none⟩) (u8s E ++ [Value.int .u8 (s.size : Int)] ++ u8s (bytesN s))) 10 (f 79) (f 0) w1 := hF 10 (by kernel_rfl)
        have d12 : (reF W0.heap.size w.heap.size b3 (o3 + (k + 1)) g4 (L + 1 + s.size) c4' k (nk + 1) cc kd q1 q2 (some ⟨b3, o3, none⟩) (u8s E ++ [Value.int .u8 (s.size : Int)] ++ u8s (bytesN s))) 12 (f 81) (f 0) w1 := hF 12 (by kernel_rfl)
        clear hF
        dsimp only at hK ⊢
        generalize f 79 = v79 at *
        generalize f 81 = v81 at *
        subst d10
        subst d12
        go_simp
        exact hK.out _ _ hG rfl (fun _ _ _ _ h => h)
      · -- 14: Op.load 3 t82
        refine StepA.was ?_
        refine StepL.act ?_
        intro f w1 hG hF K hK
        have d13 : (reF W0.heap.size w.heap.size b3 (o3 + (k + 1)) g4 (L + 1 + s.size) c4' k (nk + 1) cc kd q1 q2 (some ⟨b3, o3, none⟩) (u8s E ++ [Value.int .u8 (s.size : Int)] ++ u8s (bytesN s))) 13 (f 82) (f 0) w1 := hF 13 (by kernel_rfl)
        clear hF
        dsimp only at hK ⊢
        generalize f 82 = v82 at *
        subst d13
        have y := (hG.bel.cell (p := ⟨b3, o3 + (k + 1), none⟩) hb4).trans c4
        go_simp
        exact hK.out _ _ hG rfl (fun _ _ _ _ h => h)
      · -- 15: Op.binOp BinOp.quo 3 t83 (const (256:i64)) 3
        refine StepA.was ?_
        refine StepL.act ?_
        intro f w1 hG hF K hK
        have d14 : (reF W0.heap.size w.heap.size b3 (o3 + (k + 1)) g4 (L + 1 + s.size) c4' k (nk + 1) cc kd q1 q2 (some ⟨b3, o3, none⟩) (u8s E ++ [Value.int .u8 (s.size : Int)] ++ u8s (bytesN s))) 14 (f 83) (f 0) w1 := hF 14 (by kernel_rfl)
        clear hF
        dsimp only at hK ⊢
        generalize f 83 = v83 at *
        subst d14
        go_simp
        exact hK.out _ _ hG rfl (fun _ _ _ _ h => h)
      · -- 16: Op.convert 3 5 t84
        refine StepA.was ?_
        refine StepL.act ?_
        intro f w1 hG hF K hK
        have d15 : (reF W0.heap.size w.heap.size b3 (o3 + (k + 1)) g4 (L + 1 + s.size) c4' k (nk + 1) cc kd q1 q2 (some ⟨b3, o3, none⟩) (u8s E ++ [Value.int .u8 (s.size : Int)] ++ u8s (bytesN s))) 15 (f 84) (f 0) w1 := hF 15 (by kernel_rfl)
        clear hF
        dsimp only at hK ⊢
        generalize f 84 = v84 at *
        subst d15
        go_simp
        exact hK.out _ _ hG rfl (fun _ _ _ _ h => h)
      · -- 17: Op.buildSlice 27 2 #[(0, t77), (1, t85)]
        refine StepA.was ?_
        refine StepL.act ?_
        intro f w1 hG hF K hK
        have d8 : (reF W0.heap.size w.heap.size b3 (o3 + (k + 1)) g4 (L + 1 + s.size) c4' k (nk + 1) cc kd q1 q2 (some ⟨b3, o3, none⟩) (u8s E ++ [Value.int .u8 (s.size : Int)] ++ u8s (bytesN s))) 8 (f 77) (f 0) w1 := hF 8 (by kernel_rfl)
        have d16 : (reF W0.heap.size w.heap.size b3 (o3 + (k + 1)) g4 (L + 1 + s.size) c4' k (nk + 1) cc kd q1 q2 (some ⟨b3, o3, none⟩) (u8s E ++ [Value.int .u8 (s.size : Int)] ++ u8s (bytesN s))) 16 (f 85) (f 0) w1 := hF 16 (by kernel_rfl)
        clear hF
        dsimp only at hK ⊢
        generalize f 77 = v77 at *
        generalize f 85 = v85 at *
        subst d8 d16
        go_simp
        exact hK.out _ _ (hG.next ((Below.refl _ _).alloc (Nat.le_refl _) _)) ⟨w1.heap.size, rfl, (by have := hG.lt; omega), Bk.new w1 _ _⟩ (fun j _ u u' h => reF_bel ((Below.refl _ _).alloc (Nat.le_refl _) _) j u u' h)
      · -- 18: Op.call ( builtin append, args := #[t69, t86], argTypes := #[27, 27] )
        refine StepA.was ?_
        intro f w1 hG hF K hK
        have d0 : (reF W0.heap.size w.heap.size b3 (o3 + (k + 1)) g4 (L + 1 + s.size) c4' k (nk + 1) cc kd q1 q2 (some ⟨b3, o3, none⟩) (u8s E ++ [Value.int .u8 (s.size : Int)] ++ u8s (bytesN s))) 0 (f 69) (f 0) w1 := hF 0 (by kernel_rfl)
        have d17 : (reF W0.heap.size w.heap.size b3 (o3 + (k + 1)) g4 (L + 1 + s.size) c4' k (nk + 1) cc kd q1 q2 (some ⟨b3, o3, none⟩) (u8s E ++ [Value.int .u8 (s.size : Int)] ++ u8s (bytesN s))) 17 (f 86) (f 0) w1 := hF 17 (by kernel_rfl)
        clear hF
        dsimp only at hK ⊢
        generalize hf69 : f 69 = v69 at *
        generalize hf86 : f 86 = v86 at *
        have d0 : v69 = .slice (some ⟨g4, 0, none⟩) (L + 1 + s.size) c4' := d0
        subst d0
        obtain ⟨g, rfl, hg, hbk⟩ := d17
        have hcb : ∀ j u, [Value.int .u8 (q1 : Int), Value.int .u8 (q2 : Int)][j]? = some u → w1.cell? ((⟨g, 0, none⟩ : Addr).add j) = some u := fun j u hu => by
          rw [show ((⟨g, 0, none⟩ : Addr).add j) = ⟨g, j, none⟩ by unfold Addr.add; split <;> simp_all, hbk.cell j]; simpa using hu
        obtain ⟨v', w2', hrun, hown, hold, hkept, hbb, _⟩ := run_append_two (P := Try.prog) w1 W0.heap.size 27 27 5 i0 _ 1 1 Try.underlying27 hi0 hz0 hz1 hz2 rfl g4 (L + 1 + s.size) c4' (u8s E ++ [Value.int .u8 (s.size : Int)] ++ u8s (bytesN s)) hG.own ⟨g, 0, none⟩ 2 2 [Value.int .u8 (q1 : Int), Value.int .u8 (q2 : Int)] rfl hcb (by intro u hu; simp only [List.mem_cons, List.not_mem_nil, or_false] at hu; rcases hu with rfl | rfl <;> rfl) (by omega) (by simp only [maxLen]; omega) (by omega) hG.big
        have HK := hK.out v' w2' (hG.kept hkept hbb hold) hown
        refine Lib.wp_append_run w1 _ _ _ _ rfl _ _ rfl rfl _ w2' hrun (HK ?_)
        intro j hj hdep h
        by_cases h9 : j = 19
        · subst h9
          exact absurd hdep (by rw [show depS _ 19 18 = true by kernel_rfl]; decide)
        · exact reF_kept hkept j hj h9 _ _ h
      · -- 19: Op.assign t87
        refine StepA.was ?_
        refine StepL.act ?_
        intro f w1 hG hF K hK
        have d18 : (reF W0.heap.size w.heap.size b3 (o3 + (k + 1)) g4 (L + 1 + s.size) c4' k (nk + 1) cc kd q1 q2 (some ⟨b3, o3, none⟩) (u8s E ++ [Value.int .u8 (s.size : Int)] ++ u8s (bytesN s))) 18 (f 87) (f 0) w1 := hF 18 (by kernel_rfl)
        clear hF
        dsimp only at hK ⊢
        generalize f 87 = v87 at *
        obtain ⟨g6, c6, rfl, _, _⟩ := World.ownsRow.form d18 (by omega)
        go_simp
        exact hK.out _ _ hG d18 (fun _ _ _ _ h => h)
      intro f w6 hG hF
      have f9 : w6.ownsRow W0.heap.size 5 1 (f 3) (L + 1 + s.size + 2) ((u8s E ++ [Value.int .u8 (s.size : Int)] ++ u8s (bytesN s)) ++ [.int .u8 (q1 : Int), .int .u8 (q2 : Int)]) := hF 19 (by decide)
      have BB4 := Lib.hid hG.bel
      clear hF hG
      dsimp only
      generalize f 69 = v69
      generalize f 70 = v70
      generalize f 71 = v71
      generalize f 72 = v72
      generalize f 73 = v73
      generalize f 74 = v74
      generalize f 75 = v75
      generalize f 76 = v76
      generalize f 77 = v77
      generalize f 78 = v78
      generalize f 79 = v79
      generalize f 80 = v80
      generalize f 81 = v81
      generalize f 82 = v82
      generalize f 83 = v83
      generalize f 84 = v84
      generalize f 85 = v85
      generalize f 86 = v86
      generalize f 87 = v87
      generalize f 3 = v3 at *
      obtain ⟨g6, c6, rfl, hg6, hl6⟩ := World.ownsRow.form f9 (by omega)
      have O4 := Lib.hid f9
      clear f9
      go_wp2_with fail
      go_roundw
      case rel =>
        refine ⟨k + 1, by omega, by go_num, ?_, BB4.out⟩
        have ho := O4.out
        have el : L + 1 + s.size + 2 = (encTo ⟨false, ks, vs, cs⟩ (k + 1)).length := by rw [HST.out]; simp only [List.length_append, List.length_cons, List.length_nil, bytesN_length]; have := HL.out; omega
        have ec : u8s E ++ [Value.int .u8 (s.size : Int)] ++ u8s (bytesN s) ++ [Value.int .u8 (q1 : Int), Value.int .u8 (q2 : Int)] = u8s (encTo ⟨false, ks, vs, cs⟩ (k + 1)) := by rw [HST.out]; simp [u8s]
        rw [ec] at ho
        rw [← el]
        exact ho
      case measure => simp [intOf]; omega
    · obtain rfl : k = nk := by omega
      have hlen : (encTo ⟨false, ks, vs, cs⟩ k).length ≤ 256 := by
        have h4 : k = ks.length := HEK.out
        have h5 : (encTo ⟨false, ks, vs, cs⟩ k).length = headN false + sumN ⟨false, ks, vs, cs⟩ k := encTo_length (form_vk HF.out) k (by show k ≤ ks.length; omega)
        have h6 : headN false + sumN ⟨false, ks, vs, cs⟩ ks.length ≤ 256 := HSz.out
        rw [← h4] at h6
        omega
      have HEnc := Lib.hid (show encB ⟨false, ks, vs, cs⟩ = padB (encTo ⟨false, ks, vs, cs⟩ k) by unfold encB; have h4 : k = ks.length := HEK.out; rw [h4])
      generalize encTo ⟨false, ks, vs, cs⟩ k = E at *
      obtain ⟨L, hL⟩ : ∃ L, L = E.length := ⟨_, rfl⟩
      have HO0 := Lib.hid (show wr.ownsRow W0.heap.size 5 1 (.slice Ab E.length cbb) (L + 0) (u8s (E ++ List.replicate 0 0)) by rw [Nat.add_zero, hL]; simpa using HO.out)
      rw [← hL] at HO0 hlen hcb ⊢
      have HL := Lib.hid hL
      clear hL HO x0 x1 x2 x3
      go_wp2_with fail
      go_loopw [3] (fun v wq => ∃ j : Nat, L + j ≤ 256 ∧ wq.ownsRow W0.heap.size 5 1 v (L + j) (u8s (E ++ List.replicate j 0)) ∧ Below W0.heap.size W0 wq) (fun v _ => 256 - lenV v)
      case atStart => exact ⟨0, by omega, HO0.out, HB.out⟩
      case round =>
        clear HO0
        obtain ⟨j, hj, hown, hbq⟩ := hrel
        obtain ⟨A1, c1, rfl, hc1, s1⟩ := own_shape hown
        have HO1 := Lib.hid hown
        have HB1 := Lib.hid hbq
        have hsz1 := hbq.size
        have HS1 := Lib.hid s1
        clear hown hbq s1
        by_cases hlt2 : L + j < 256
        · have i2 : (L : Int) + (j : Int) < 256 := by omega
          go_wp2_with (at_builtin; refine wpList_append_seg _ rfl _ _ _ rfl W0.heap.size 5 i0 _ 1 Try.underlying27 hi0 hz0 hz1 hz2 rfl _ (L + j) _ rfl (own_alloc HO1.out _) (some ⟨wr.heap.size, 0, none⟩) 1 1 [.int .u8 0] rfl rfl (seg_new _ _ _) (by simp [Value.oneCell']) (by simp only [maxLen]; omega) (by omega) (by simp only [World.size_alloc]; omega) ?_; intro v' w' hown' hb')
          obtain ⟨A', c', rfl, hc', _⟩ := own_shape hown'
          go_roundw
          case rel =>
            refine ⟨j + 1, by omega, ?_, (HB1.out.alloc hsz1 _).trans hb'⟩
            rw [show u8s (E ++ List.replicate j 0) ++ [Value.int .u8 0] = u8s (E ++ List.replicate (j + 1) 0) by rw [List.replicate_succ']; simp [u8s]] at hown'
            exact hown'
          case measure => simp [lenV]; omega
        · have hj2 : L + j = 256 := by omega
          rw [hj2] at hc1 ⊢
          have HJ := Lib.hid (show j = 256 - E.length by have := HL.out; omega)
          clear hj2 hlt2
          go_wp2_with fail
          go_ret
          refine ⟨⟨A1, c1, rfl, hc1, ?_⟩, HB0.out.trans (HB1.out.mono (by omega))⟩
          rw [HEnc.out]
          unfold padB
          rw [← HJ.out]
          exact HS1.out
theorem renc_any (n : NodeM) (A B C : Option Addr) (nk ca nv cb nc cc : Nat) (w : World) (h : Nd w n A B C nk ca nv cb nc cc) (hf : formB n = true) (hs : sizeN n ≤ 256) :
    Calls Try.prog 17 #[.agg #[.bool n.leaf, .slice A nk ca, .slice B nv cb, .slice C nc cc]] w fun e w' => (∃ A' c', e = .returned (.slice A' 256 c') ∧ 256 ≤ c' ∧ Seg w' A' (u8s (encB n))) ∧ Below w.heap.size w w' := by
  obtain ⟨lf, ks, vs, cs⟩ := n
  cases lf
  · exact renc_branch ks vs cs A B C nk ca nv cb nc cc w h hf hs
  · exact renc_leaf ks vs cs A B C nk ca nv cb nc cc w h hf hs
end Go.Proofs.Ytcnfnfnmpifahaa
