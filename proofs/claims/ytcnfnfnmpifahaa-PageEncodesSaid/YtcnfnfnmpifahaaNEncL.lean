/- The statement on encoding, its own walk. Condition: the node's rows lie in memory. -/
import Derived.Test.YtcnfnfnmpifahaaNDecL
import Derived.Test.YtcnfnfnmpifahaaStableG
namespace Go.Proofs.Ytcnfnfnmpifahaa
open Go.RowKit

theorem form_small {n : NodeM} {A B C : Option Addr} {nk ca nv cb nc cc : Nat} {w : World} (h : Nd w n A B C nk ca nv cb nc cc) (hf : formB n = true) : sizeN n ≤ 4611686018427387904 := by
  have h1 := form_sum_le hf n.keys.length
  have h2 : headN n.leaf ≤ 4 := by unfold headN; split <;> omega
  have h3 := h.bk
  have h4 := h.ek
  unfold sizeN
  have : n.keys.length * 123 ≤ 8796093022208 * 123 := Nat.mul_le_mul_right _ (by omega)
  omega
theorem checkF_any (n : NodeM) (A B C : Option Addr) (nk ca nv cb nc cc : Nat) (w : World) (h : Nd w n A B C nk ca nv cb nc cc) :
    Calls Try.prog 11 #[.agg #[.bool n.leaf, .slice A nk ca, .slice B nv cb, .slice C nc cc]] w fun e w' => e = .returned (.int .i64 (checkN n : Nat)) ∧ Below w.heap.size w w' := by
  by_cases hf : formB n = true
  · exact check_any n A B C nk ca nv cb nc cc w h (form_small h hf)
  · have hv : formB n = false := by simpa using hf
    have HR := Lib.hid (show checkN n = 4 by unfold checkN; rw [hv]; rfl)
    have H := Lib.hid h
    have HA := Lib.hid ((Below.refl w.heap.size w).alloc (Nat.le_refl _) (.cells #[.bool n.leaf, .slice A nk ca, .slice B nv cb, .slice C nc cc] 25))
    have C0 := inform_any n A B C nk ca nv cb nc cc _ (H.out.bel HA.out)
    rw [hv] at C0
    have C0 := Lib.hid C0
    clear h hv hf
    go_enter Try.func11, Try.ntmps11
    go_wp2_with fail
    refine C0.out.mono ?_
    rintro e w1 ⟨rfl, hb1⟩
    have HA1 := Lib.hid (HA.out.trans (hb1.mono HA.out.size))
    clear hb1
    go_wp2_with fail
    go_ret
    exact ⟨by rw [HR.out]; rfl, HA1.out⟩
/-- What Encode answers. -/
def EncR (n : NodeM) (V : Value) (w : World) : Prop :=
  (checkN n = 0 ∧ ∃ g, V = .slice (some ⟨g, 0, none⟩) 256 256 ∧ Seg w (some ⟨g, 0, none⟩) (u8s (encB n))) ∨ (checkN n ≠ 0 ∧ V = .slice none 0 0)
theorem EncR.bel {n : NodeM} {V : Value} {w w' : World} (h : EncR n V w) (hb : Below w.heap.size w w') : EncR n V w' := by
  rcases h with ⟨h1, g, h2, h3⟩ | h
  · exact Or.inl ⟨h1, g, h2, h3.bel hb⟩
  · exact Or.inr h
theorem enc_both (n : NodeM) (A B C : Option Addr) (nk ca nv cb nc cc : Nat) (w : World) (h : Nd w n A B C nk ca nv cb nc cc) :
    Calls Try.prog 8 #[.agg #[.bool n.leaf, .slice A nk ca, .slice B nv cb, .slice C nc cc]] w fun e w' => (∃ V, e = .returned (.tuple #[V, .int .i64 (checkN n : Nat)]) ∧ EncR n V w') ∧ Below w.heap.size w w' := by
  by_cases hck : checkN n = 0
  · obtain ⟨hf, hs⟩ := checkN_zero.1 hck
    refine (nencode_any n A B C nk ca nv cb nc cc w h hf hs).mono ?_
    rintro e w' ⟨⟨g, rfl, hg, he⟩, hb⟩
    refine ⟨⟨_, by rw [hck]; rfl, Or.inl ⟨hck, g, rfl, ?_⟩⟩, hb⟩
    unfold encB
    rw [← h.ek]
    exact Seg.of_block he (fun i hi => by simp)
  · have H := Lib.hid h
    have HA := Lib.hid ((Below.refl w.heap.size w).alloc (Nat.le_refl _) (.cells #[.bool n.leaf, .slice A nk ca, .slice B nv cb, .slice C nc cc] 25))
    have HB := Bk.new w 25 #[.bool n.leaf, .slice A nk ca, .slice B nv cb, .slice C nc cc]
    have x0 : (w.alloc (.cells #[.bool n.leaf, .slice A nk ca, .slice B nv cb, .slice C nc cc] 25)).cell? ⟨w.heap.size, 0, none⟩ = some (.bool n.leaf) := HB.cell 0
    have x1 : (w.alloc (.cells #[.bool n.leaf, .slice A nk ca, .slice B nv cb, .slice C nc cc] 25)).cell? ⟨w.heap.size, 1, none⟩ = some (.slice A nk ca) := HB.cell 1
    have x2 : (w.alloc (.cells #[.bool n.leaf, .slice A nk ca, .slice B nv cb, .slice C nc cc] 25)).cell? ⟨w.heap.size, 2, none⟩ = some (.slice B nv cb) := HB.cell 2
    have x3 : (w.alloc (.cells #[.bool n.leaf, .slice A nk ca, .slice B nv cb, .slice C nc cc] 25)).cell? ⟨w.heap.size, 3, none⟩ = some (.slice C nc cc) := HB.cell 3
    have C0 := Lib.hid (checkF_any n A B C nk ca nv cb nc cc _ (H.out.bel HA.out))
    obtain ⟨ck, hc⟩ : ∃ ck, ck = checkN n := ⟨_, rfl⟩
    have HE := Lib.hid (show ∀ w', EncR n (.slice none 0 0) w' from fun w' => Or.inr ⟨hck, rfl⟩)
    rw [← hc] at C0 hck ⊢
    have i1 : ((ck : Int) != 0) = true := by rw [bne_iff_ne]; omega
    generalize hw0 : w.alloc (.cells #[.bool n.leaf, .slice A nk ca, .slice B nv cb, .slice C nc cc] 25) = w0 at *
    have HW0 := Lib.hid hw0
    clear h HB hc hck hw0
    go_enter Try.func8, Try.ntmps8
    go_upto_region 1 with fail
    rw [HW0.out]
    go_wp2_with fail
    refine C0.out.mono ?_
    rintro e w1 ⟨rfl, hb1⟩
    have HA1 := Lib.hid (HA.out.trans (hb1.mono HA.out.size))
    clear hb1
    go_wp2_with fail
    go_ret2
    exact ⟨⟨_, rfl, HE.out _⟩, HA1.out⟩
theorem textN_lt (s : ByteArray) : ∀ x ∈ textN s, x < 256 := by
  intro x hx
  unfold textN at hx
  rcases List.mem_cons.1 hx with rfl | hx
  · omega
  · unfold bytesN at hx
    obtain ⟨y, _, rfl⟩ := List.mem_map.1 hx
    exact y.toNat_lt
theorem kidB_lt (k : Int) : ∀ x ∈ kidB k, x < 256 := by
  intro x hx
  unfold kidB at hx
  simp only [List.mem_cons, List.not_mem_nil, or_false] at hx
  omega
theorem encTo_lt (n : NodeM) : ∀ j, ∀ x ∈ encTo n j, x < 256
  | 0 => by
    intro x hx
    change x ∈ headB n at hx
    unfold headB at hx
    split at hx
    · simp only [List.mem_cons, List.not_mem_nil, or_false] at hx; omega
    · rcases List.mem_append.1 hx with hx | hx
      · simp only [List.mem_cons, List.not_mem_nil, or_false] at hx; omega
      · exact kidB_lt _ x hx
  | j + 1 => by
    intro x hx
    change x ∈ encTo n j ++ pieceB n j at hx
    rcases List.mem_append.1 hx with hx | hx
    · exact encTo_lt n j x hx
    · unfold pieceB at hx
      rcases List.mem_append.1 hx with hx | hx
      · exact textN_lt _ x hx
      · split at hx
        · exact textN_lt _ x hx
        · exact kidB_lt _ x hx
theorem encB_lt (n : NodeM) (_hf : formB n = true) : ∀ x ∈ encB n, x < 256 := by
  intro x hx
  unfold encB padB at hx
  rcases List.mem_append.1 hx with hx | hx
  · exact encTo_lt n _ x hx
  · rw [List.eq_of_mem_replicate hx]; omega
/-- A copy of a node. -/
def TwV (n : NodeM) (nk nv nc : Nat) (v : Value) (w : World) : Prop := ∃ A B C c1 c2 c3, v = .agg #[.bool n.leaf, .slice A nk c1, .slice B nv c2, .slice C nc c3] ∧ Nd w n A B C nk c1 nv c2 nc c3
def eF (cl : List Value) (n : NodeM) (nk nv nc j : Nat) (v _u : Value) (w : World) : Prop := match j with
  | 9 => TwV n nk nv nc v w
  | 16 => TwV n nk nv nc v w
  | j => v = cl.getD j undef
theorem eF_bel {cl : List Value} {n : NodeM} {nk nv nc : Nat} {w w' : World} (hb : Below w.heap.size w w') : ∀ j u u', eF cl n nk nv nc j u u' w → eF cl n nk nv nc j u u' w' := by
  intro j u u' h
  unfold eF at *
  split at h
  · obtain ⟨A, B, C, c1, c2, c3, e, hn⟩ := h; exact ⟨A, B, C, c1, c2, c3, e, hn.bel hb⟩
  · obtain ⟨A, B, C, c1, c2, c3, e, hn⟩ := h; exact ⟨A, B, C, c1, c2, c3, e, hn.bel hb⟩
  · exact h
set_option maxRecDepth 100000 in
set_option maxHeartbeats 4000000 in
theorem penc_any (lf : Bool) (ks vs : List ByteArray) (cs : List Int) (A B C : Option Addr) (nk ca nv cb nc cc : Nat) (w : World) (h : Nd w ⟨lf, ks, vs, cs⟩ A B C nk ca nv cb nc cc) :
    Calls Try.prog 3 #[.agg #[.bool lf, .slice A nk ca, .slice B nv cb, .slice C nc cc]] w fun e w' => e = .returned (.bool true) ∧ Below w.heap.size w w' := by
  obtain ⟨i0, hi0, hz0, hz1, hz2⟩ := info_parts info5
  obtain ⟨W0, hW0⟩ : ∃ W0, W0 = w.alloc (.cells #[.bool lf, .slice A nk ca, .slice B nv cb, .slice C nc cc] 25) := ⟨_, rfl⟩
  have B0 : Below w.heap.size w W0 := by rw [hW0]; exact (Below.refl _ _).alloc (Nat.le_refl _) _
  have X0 : Bk W0 w.heap.size 25 #[.bool lf, .slice A nk ca, .slice B nv cb, .slice C nc cc] := by rw [hW0]; exact Bk.new w _ _
  have x0 : W0.cell? ⟨w.heap.size, 0, none⟩ = some (.bool lf) := X0.cell 0
  have x1 : W0.cell? ⟨w.heap.size, 1, none⟩ = some (.slice A nk ca) := X0.cell 1
  have x2 : W0.cell? ⟨w.heap.size, 2, none⟩ = some (.slice B nv cb) := X0.cell 2
  have x3 : W0.cell? ⟨w.heap.size, 3, none⟩ = some (.slice C nc cc) := X0.cell 3
  have HN0 := Lib.hid (h.bel B0)
  have TW := Lib.hid (twin_any lf ks vs cs A B C nk ca nv cb nc cc W0 HN0.out)
  have HX0 := Lib.hid X0
  have HB0 := Lib.hid B0
  have HW0 := Lib.hid hW0
  have FSM := Lib.hid (fun hf => form_small h hf)
  clear h B0 X0 hW0
  go_enter Try.func3, Try.ntmps3
  go_upto_region 1 with fail
  rw [← HW0.out]
  go_wp2_with fail
  refine TW.out.mono ?_
  rintro e w1 ⟨⟨Ax, Bx, Cx, cx1, cx2, cx3, rfl, nx⟩, b1⟩
  obtain ⟨w2, hw2⟩ : ∃ w2, w2 = w1.alloc (.cells #[.bool lf, .slice Ax nk cx1, .slice Bx nv cx2, .slice Cx nc cx3] 25) := ⟨_, rfl⟩
  have B2 : Below w1.heap.size w1 w2 := by rw [hw2]; exact (Below.refl _ _).alloc (Nat.le_refl _) _
  have X2 : Bk w2 w1.heap.size 25 #[.bool lf, .slice Ax nk cx1, .slice Bx nv cx2, .slice Cx nc cx3] := by rw [hw2]; exact Bk.new w1 _ _
  have y0 : w2.cell? ⟨w1.heap.size, 0, none⟩ = some (.bool lf) := X2.cell 0
  have y1 : w2.cell? ⟨w1.heap.size, 1, none⟩ = some (.slice Ax nk cx1) := X2.cell 1
  have y2 : w2.cell? ⟨w1.heap.size, 2, none⟩ = some (.slice Bx nv cx2) := X2.cell 2
  have y3 : w2.cell? ⟨w1.heap.size, 3, none⟩ = some (.slice Cx nc cx3) := X2.cell 3
  have HW2 := Lib.hid hw2
  have HBa := Lib.hid (b1.trans (B2.mono b1.size))
  have HNX := Lib.hid (nx.bel B2)
  have HXX := Lib.hid X2
  obtain ⟨gx, hgx⟩ : ∃ gx, gx = w1.heap.size := ⟨_, rfl⟩
  have HGX := Lib.hid hgx
  have EN := Lib.hid (enc_both ⟨lf, ks, vs, cs⟩ Ax Bx Cx nk cx1 nv cx2 nc cx3 w2 HNX.out)
  obtain ⟨ck, hck⟩ : ∃ ck, ck = checkN ⟨lf, ks, vs, cs⟩ := ⟨_, rfl⟩
  rw [← hck] at EN
  have HCKE := Lib.hid hck
  clear hck
  clear b1 nx hw2 B2 X2 x0 x1 x2 x3 hgx TW
  go_upto_region 2 with fail
  rw [← HW2.out]
  go_wp2_with fail
  refine EN.out.mono ?_
  rintro e w3 ⟨⟨V, rfl, hV⟩, b3⟩
  have HV3 := Lib.hid hV
  have HB3 := Lib.hid (HBa.out.trans (b3.mono HBa.out.size))
  have HX3 := Lib.hid (HXX.out.bel b3)
  have HN3 := Lib.hid (HNX.out.bel b3)
  have Z3 := HX0.out.bel HB3.out
  have x0 : w3.cell? ⟨w.heap.size, 0, none⟩ = some (.bool lf) := Z3.cell 0
  have x1 : w3.cell? ⟨w.heap.size, 1, none⟩ = some (.slice A nk ca) := Z3.cell 1
  have x2 : w3.cell? ⟨w.heap.size, 2, none⟩ = some (.slice B nv cb) := Z3.cell 2
  have x3 : w3.cell? ⟨w.heap.size, 3, none⟩ = some (.slice C nc cc) := Z3.cell 3
  have RC := rcheck_any ⟨lf, ks, vs, cs⟩ A B C nk ca nv cb nc cc w3 (HN0.out.bel HB3.out) FSM.out
  rw [← HCKE.out] at RC
  have RC := Lib.hid RC
  clear hV b3 Z3 y0 y1 y2 y3 HXX HNX
  go_wp2_with fail
  refine RC.out.mono ?_
  rintro e W8 ⟨rfl, b8⟩
  have HV8 := Lib.hid (HV3.out.bel b8)
  have HB8 := Lib.hid (HB3.out.trans (b8.mono HB3.out.size))
  have HXX := Lib.hid (show Bk W8 gx 25 _ by rw [HGX.out]; exact HX3.out.bel b8)
  have HNX := Lib.hid (HN3.out.bel b8)
  have HBX := Lib.hid (HX0.out.bel HB8.out)
  have HND := Lib.hid (HN0.out.bel HB8.out)
  have HCK := Lib.hid (fun A B C c1 c2 c3 w (h : Nd w ⟨lf, ks, vs, cs⟩ A B C nk c1 nv c2 nc c3) => by
    have := checkF_any ⟨lf, ks, vs, cs⟩ A B C nk c1 nv c2 nc c3 w h
    rw [← HCKE.out] at this
    exact this)
  obtain ⟨sz, hsz⟩ : ∃ sz, sz = IntKind.i64.wrap (sizeN ⟨lf, ks, vs, cs⟩ : Nat) := ⟨_, rfl⟩
  have HSZ := Lib.hid (fun A B C c1 c2 c3 w (h : Nd w ⟨lf, ks, vs, cs⟩ A B C nk c1 nv c2 nc c3) => by
    have := size_any lf ks vs cs A B C nk c1 nv c2 nc c3 w h
    rw [← hsz] at this
    exact this)
  have HRS := Lib.hid (fun w (h : Nd w ⟨lf, ks, vs, cs⟩ A B C nk ca nv cb nc cc) => by
    have := rsize_any ⟨lf, ks, vs, cs⟩ A B C nk ca nv cb nc cc w h
    rw [← hsz] at this
    exact this)
  clear b8 hsz x0 x1 x2 x3 HX3 HN3
  rw [← HGX.out]
  go_wp2_with fail
  refine wp_region_guarded [some 18, some 19, some 20, some 21, some 22, some 23, some 24, some 25, some 26, some 27, some 28, some 29, some 30, some 31, some 32, some 33, some 34, some 35, some 36, some 37, some 38, some 39, some 40, some 41, some 42, some 43, some 44, some 45] (fun _ => 0) (eF [.bool true, .bool false, .bool false, .int .i64 (ck : Int), .int .i64 (ck : Int), .bool false, .bool false, .bool false, .agg #[.bool lf, .slice A nk ca, .slice B nv cb, .slice C nc cc], undef, .int .i64 (ck : Int), .int .i64 (ck : Int), .bool false, .bool false, .bool false, .agg #[.bool lf, .slice A nk ca, .slice B nv cb, .slice C nc cc], undef, .int .i64 sz, .agg #[.bool lf, .slice A nk ca, .slice B nv cb, .slice C nc cc], .int .i64 sz, .bool false, .bool false, .bool false, .agg #[.bool lf, .slice Ax nk cx1, .slice Bx nv cx2, .slice Cx nc cx3], .agg #[.bool lf, .slice A nk ca, .slice B nv cb, .slice C nc cc], .bool true, .bool false, .bool false] ⟨lf, ks, vs, cs⟩ nk nv nc) (fun w' => Below W8.heap.size W8 w') (by kernel_rfl) (Below.refl _ _).drew rfl (by kernel_rfl) (by kernel_rfl) (by kernel_rfl) (fun T hT => ?_)
  simp only [List.filterMap_cons, List.filterMap_nil, id, putsS, Act.put, List.setIfInBounds_toArray, List.set_cons_zero, List.set_cons_succ] at hT
  subst hT
  refine ⟨⟨?_, ?_, ?_, ?_, ?_, ?_, ?_, ?_, ?_, ?_, ?_, ?_, ?_, ?_, ?_, ?_, ?_, ?_, ?_, ?_, ?_, ?_, ?_, ?_, ?_, ?_, ?_, ?_, trivial⟩, ?_⟩
  · refine StepA.guarded rfl ?_
    intro f w1 hG hF K hK
    clear hF
    dsimp only at hK ⊢
    go_simp
    refine (awake_any w1).mono ?_
    rintro e w20 ⟨rfl, hb20⟩
    exact hK.out _ _ (hG.trans (hb20.mono hG.size)) rfl (fun j _ _ h => eF_bel hb20 j _ _ h)
  · refine StepA.guarded rfl ?_
    intro f w1 hG hF K hK
    have d0 : f 18 = .bool true := hF 0 (by kernel_rfl)
    clear hF
    dsimp only at hK ⊢
    generalize f 18 = v18 at *
    subst d0
    go_simp
    exact hK.out _ _ hG rfl (fun _ _ _ h => h)
  · refine StepA.guarded rfl ?_
    intro f w1 hG hF K hK
    have d1 : f 19 = .bool false := hF 1 (by kernel_rfl)
    clear hF
    dsimp only at hK ⊢
    generalize f 19 = v19 at *
    subst d1
    go_simp
    exact hK.out _ _ hG rfl (fun _ _ _ h => h)
  · intro f w1 hG hF K hK
    have d2 : f 20 = .bool false := hF 2 (by kernel_rfl)
    clear hF
    rw [if_pos (by rw [wanted_val (g := 2) (d := 20) (b := false) (c := false) rfl (by kernel_rfl) (show some (f 20) = some (.bool false) from congrArg some d2)]; rfl)]
    dsimp only at hK ⊢
    generalize f 20 = v20 at *
    subst d2
    go_simp
    exact hK.out _ _ hG rfl (fun _ _ _ h => h)
  · intro f w1 hG hF K hK
    have d2 : f 20 = .bool false := hF 2 (by kernel_rfl)
    clear hF
    rw [if_pos (by rw [wanted_val (g := 2) (d := 20) (b := false) (c := false) rfl (by kernel_rfl) (show some (f 20) = some (.bool false) from congrArg some d2)]; rfl)]
    dsimp only at hK ⊢
    generalize f 20 = v20 at *
    subst d2
    go_simp
    exact hK.out _ _ hG rfl (fun _ _ _ h => h)
  · intro f w1 hG hF K hK
    have d2 : f 20 = .bool false := hF 2 (by kernel_rfl)
    have d3 : f 21 = .int .i64 (ck : Int) := hF 3 (by kernel_rfl)
    have d4 : f 22 = .int .i64 (ck : Int) := hF 4 (by kernel_rfl)
    clear hF
    rw [if_pos (by rw [wanted_val (g := 2) (d := 20) (b := false) (c := false) rfl (by kernel_rfl) (show some (f 20) = some (.bool false) from congrArg some d2)]; rfl)]
    dsimp only at hK ⊢
    generalize f 20 = v20 at *
    generalize f 21 = v21 at *
    generalize f 22 = v22 at *
    subst d2
    subst d3
    subst d4
    go_simp
    exact hK.out _ _ hG rfl (fun _ _ _ h => h)
  · refine StepA.guarded rfl ?_
    intro f w1 hG hF K hK
    have d2 : f 20 = .bool false := hF 2 (by kernel_rfl)
    have d5 : f 23 = .bool false := hF 5 (by kernel_rfl)
    clear hF
    dsimp only at hK ⊢
    generalize f 20 = v20 at *
    generalize f 23 = v23 at *
    subst d2
    subst d5
    go_simp
    exact hK.out _ _ hG rfl (fun _ _ _ h => h)
  · refine StepA.guarded rfl ?_
    intro f w1 hG hF K hK
    have d6 : f 24 = .bool false := hF 6 (by kernel_rfl)
    clear hF
    dsimp only at hK ⊢
    generalize f 24 = v24 at *
    subst d6
    go_simp
    exact hK.out _ _ hG rfl (fun _ _ _ h => h)
  · intro f w1 hG hF K hK
    have d7 : f 25 = .bool false := hF 7 (by kernel_rfl)
    clear hF
    rw [if_pos (by rw [wanted_val (g := 7) (d := 25) (b := false) (c := false) rfl (by kernel_rfl) (show some (f 25) = some (.bool false) from congrArg some d7)]; rfl)]
    dsimp only at hK ⊢
    generalize f 25 = v25 at *
    subst d7
    have y0 : w1.cell? ⟨w.heap.size, 0, none⟩ = some (.bool lf) := (HBX.out.bel hG).cell 0
    have y1 : w1.cell? ⟨w.heap.size, 1, none⟩ = some (.slice A nk ca) := (HBX.out.bel hG).cell 1
    have y2 : w1.cell? ⟨w.heap.size, 2, none⟩ = some (.slice B nv cb) := (HBX.out.bel hG).cell 2
    have y3 : w1.cell? ⟨w.heap.size, 3, none⟩ = some (.slice C nc cc) := (HBX.out.bel hG).cell 3
    go_simp
    exact hK.out _ _ hG rfl (fun _ _ _ h => h)
  · intro f w1 hG hF K hK
    have d7 : f 25 = .bool false := hF 7 (by kernel_rfl)
    have d8 : f 26 = .agg #[.bool lf, .slice A nk ca, .slice B nv cb, .slice C nc cc] := hF 8 (by kernel_rfl)
    clear hF
    rw [if_pos (by rw [wanted_val (g := 7) (d := 25) (b := false) (c := false) rfl (by kernel_rfl) (show some (f 25) = some (.bool false) from congrArg some d7)]; rfl)]
    dsimp only at hK ⊢
    generalize f 25 = v25 at *
    generalize f 26 = v26 at *
    subst d7
    subst d8
    go_simp
    refine (twin_any lf ks vs cs A B C nk ca nv cb nc cc w1 (HND.out.bel hG)).mono ?_
    rintro e w20 ⟨⟨A2, B2, C2, p2, q2, r2, rfl, n2⟩, hb20⟩
    exact hK.out _ _ (hG.trans (hb20.mono hG.size)) ⟨A2, B2, C2, p2, q2, r2, rfl, n2⟩ (fun j _ _ h => eF_bel hb20 j _ _ h)
  · intro f w1 hG hF K hK
    have d7 : f 25 = .bool false := hF 7 (by kernel_rfl)
    obtain ⟨A9, B9, C9, p9, q9, r9, d9, n9⟩ : TwV ⟨lf, ks, vs, cs⟩ nk nv nc (f 27) w1 := hF 9 (by kernel_rfl)
    clear hF
    rw [if_pos (by rw [wanted_val (g := 7) (d := 25) (b := false) (c := false) rfl (by kernel_rfl) (show some (f 25) = some (.bool false) from congrArg some d7)]; rfl)]
    dsimp only at hK ⊢
    generalize f 25 = v25 at *
    generalize f 27 = v27 at *
    subst d7
    subst d9
    go_simp
    refine ((HCK.out A9 B9 C9 p9 q9 r9 w1 n9)).mono ?_
    rintro e w20 ⟨rfl, hb20⟩
    exact hK.out _ _ (hG.trans (hb20.mono hG.size)) rfl (fun j _ _ h => eF_bel hb20 j _ _ h)
  · intro f w1 hG hF K hK
    have d7 : f 25 = .bool false := hF 7 (by kernel_rfl)
    clear hF
    rw [if_pos (by rw [wanted_val (g := 7) (d := 25) (b := false) (c := false) rfl (by kernel_rfl) (show some (f 25) = some (.bool false) from congrArg some d7)]; rfl)]
    dsimp only at hK ⊢
    generalize f 25 = v25 at *
    subst d7
    go_simp
    exact hK.out _ _ hG rfl (fun _ _ _ h => h)
  · intro f w1 hG hF K hK
    have d7 : f 25 = .bool false := hF 7 (by kernel_rfl)
    have d10 : f 28 = .int .i64 (ck : Int) := hF 10 (by kernel_rfl)
    have d11 : f 29 = .int .i64 (ck : Int) := hF 11 (by kernel_rfl)
    clear hF
    rw [if_pos (by rw [wanted_val (g := 7) (d := 25) (b := false) (c := false) rfl (by kernel_rfl) (show some (f 25) = some (.bool false) from congrArg some d7)]; rfl)]
    dsimp only at hK ⊢
    generalize f 25 = v25 at *
    generalize f 28 = v28 at *
    generalize f 29 = v29 at *
    subst d7
    subst d10
    subst d11
    go_simp
    exact hK.out _ _ hG rfl (fun _ _ _ h => h)
  · refine StepA.guarded rfl ?_
    intro f w1 hG hF K hK
    have d7 : f 25 = .bool false := hF 7 (by kernel_rfl)
    have d12 : f 30 = .bool false := hF 12 (by kernel_rfl)
    clear hF
    dsimp only at hK ⊢
    generalize f 25 = v25 at *
    generalize f 30 = v30 at *
    subst d7
    subst d12
    go_simp
    exact hK.out _ _ hG rfl (fun _ _ _ h => h)
  · refine StepA.guarded rfl ?_
    intro f w1 hG hF K hK
    have d13 : f 31 = .bool false := hF 13 (by kernel_rfl)
    clear hF
    dsimp only at hK ⊢
    generalize f 31 = v31 at *
    subst d13
    go_simp
    exact hK.out _ _ hG rfl (fun _ _ _ h => h)
  · intro f w1 hG hF K hK
    have d14 : f 32 = .bool false := hF 14 (by kernel_rfl)
    clear hF
    rw [if_pos (by rw [wanted_val (g := 14) (d := 32) (b := false) (c := false) rfl (by kernel_rfl) (show some (f 32) = some (.bool false) from congrArg some d14)]; rfl)]
    dsimp only at hK ⊢
    generalize f 32 = v32 at *
    subst d14
    have y0 : w1.cell? ⟨w.heap.size, 0, none⟩ = some (.bool lf) := (HBX.out.bel hG).cell 0
    have y1 : w1.cell? ⟨w.heap.size, 1, none⟩ = some (.slice A nk ca) := (HBX.out.bel hG).cell 1
    have y2 : w1.cell? ⟨w.heap.size, 2, none⟩ = some (.slice B nv cb) := (HBX.out.bel hG).cell 2
    have y3 : w1.cell? ⟨w.heap.size, 3, none⟩ = some (.slice C nc cc) := (HBX.out.bel hG).cell 3
    go_simp
    exact hK.out _ _ hG rfl (fun _ _ _ h => h)
  · intro f w1 hG hF K hK
    have d14 : f 32 = .bool false := hF 14 (by kernel_rfl)
    have d15 : f 33 = .agg #[.bool lf, .slice A nk ca, .slice B nv cb, .slice C nc cc] := hF 15 (by kernel_rfl)
    clear hF
    rw [if_pos (by rw [wanted_val (g := 14) (d := 32) (b := false) (c := false) rfl (by kernel_rfl) (show some (f 32) = some (.bool false) from congrArg some d14)]; rfl)]
    dsimp only at hK ⊢
    generalize f 32 = v32 at *
    generalize f 33 = v33 at *
    subst d14
    subst d15
    go_simp
    refine (twin_any lf ks vs cs A B C nk ca nv cb nc cc w1 (HND.out.bel hG)).mono ?_
    rintro e w20 ⟨⟨A2, B2, C2, p2, q2, r2, rfl, n2⟩, hb20⟩
    exact hK.out _ _ (hG.trans (hb20.mono hG.size)) ⟨A2, B2, C2, p2, q2, r2, rfl, n2⟩ (fun j _ _ h => eF_bel hb20 j _ _ h)
  · intro f w1 hG hF K hK
    have d14 : f 32 = .bool false := hF 14 (by kernel_rfl)
    obtain ⟨A16, B16, C16, p16, q16, r16, d16, n16⟩ : TwV ⟨lf, ks, vs, cs⟩ nk nv nc (f 34) w1 := hF 16 (by kernel_rfl)
    clear hF
    rw [if_pos (by rw [wanted_val (g := 14) (d := 32) (b := false) (c := false) rfl (by kernel_rfl) (show some (f 32) = some (.bool false) from congrArg some d14)]; rfl)]
    dsimp only at hK ⊢
    generalize f 32 = v32 at *
    generalize f 34 = v34 at *
    subst d14
    subst d16
    go_simp
    refine ((HSZ.out A16 B16 C16 p16 q16 r16 w1 n16)).mono ?_
    rintro e w20 ⟨rfl, hb20⟩
    exact hK.out _ _ (hG.trans (hb20.mono hG.size)) rfl (fun j _ _ h => eF_bel hb20 j _ _ h)
  · intro f w1 hG hF K hK
    have d14 : f 32 = .bool false := hF 14 (by kernel_rfl)
    clear hF
    rw [if_pos (by rw [wanted_val (g := 14) (d := 32) (b := false) (c := false) rfl (by kernel_rfl) (show some (f 32) = some (.bool false) from congrArg some d14)]; rfl)]
    dsimp only at hK ⊢
    generalize f 32 = v32 at *
    subst d14
    have y0 : w1.cell? ⟨w.heap.size, 0, none⟩ = some (.bool lf) := (HBX.out.bel hG).cell 0
    have y1 : w1.cell? ⟨w.heap.size, 1, none⟩ = some (.slice A nk ca) := (HBX.out.bel hG).cell 1
    have y2 : w1.cell? ⟨w.heap.size, 2, none⟩ = some (.slice B nv cb) := (HBX.out.bel hG).cell 2
    have y3 : w1.cell? ⟨w.heap.size, 3, none⟩ = some (.slice C nc cc) := (HBX.out.bel hG).cell 3
    go_simp
    exact hK.out _ _ hG rfl (fun _ _ _ h => h)
  · intro f w1 hG hF K hK
    have d14 : f 32 = .bool false := hF 14 (by kernel_rfl)
    have d18 : f 36 = .agg #[.bool lf, .slice A nk ca, .slice B nv cb, .slice C nc cc] := hF 18 (by kernel_rfl)
    clear hF
    rw [if_pos (by rw [wanted_val (g := 14) (d := 32) (b := false) (c := false) rfl (by kernel_rfl) (show some (f 32) = some (.bool false) from congrArg some d14)]; rfl)]
    dsimp only at hK ⊢
    generalize f 32 = v32 at *
    generalize f 36 = v36 at *
    subst d14
    subst d18
    go_simp
    refine ((HRS.out w1 (HND.out.bel hG))).mono ?_
    rintro e w20 ⟨rfl, hb20⟩
    exact hK.out _ _ (hG.trans (hb20.mono hG.size)) rfl (fun j _ _ h => eF_bel hb20 j _ _ h)
  · intro f w1 hG hF K hK
    have d14 : f 32 = .bool false := hF 14 (by kernel_rfl)
    have d17 : f 35 = .int .i64 sz := hF 17 (by kernel_rfl)
    have d19 : f 37 = .int .i64 sz := hF 19 (by kernel_rfl)
    clear hF
    rw [if_pos (by rw [wanted_val (g := 14) (d := 32) (b := false) (c := false) rfl (by kernel_rfl) (show some (f 32) = some (.bool false) from congrArg some d14)]; rfl)]
    dsimp only at hK ⊢
    generalize f 32 = v32 at *
    generalize f 35 = v35 at *
    generalize f 37 = v37 at *
    subst d14
    subst d17
    subst d19
    go_simp
    exact hK.out _ _ hG rfl (fun _ _ _ h => h)
  · refine StepA.guarded rfl ?_
    intro f w1 hG hF K hK
    have d14 : f 32 = .bool false := hF 14 (by kernel_rfl)
    have d20 : f 38 = .bool false := hF 20 (by kernel_rfl)
    clear hF
    dsimp only at hK ⊢
    generalize f 32 = v32 at *
    generalize f 38 = v38 at *
    subst d14
    subst d20
    go_simp
    exact hK.out _ _ hG rfl (fun _ _ _ h => h)
  · refine StepA.guarded rfl ?_
    intro f w1 hG hF K hK
    have d21 : f 39 = .bool false := hF 21 (by kernel_rfl)
    clear hF
    dsimp only at hK ⊢
    generalize f 39 = v39 at *
    subst d21
    go_simp
    exact hK.out _ _ hG rfl (fun _ _ _ h => h)
  · intro f w1 hG hF K hK
    have d22 : f 40 = .bool false := hF 22 (by kernel_rfl)
    clear hF
    rw [if_pos (by rw [wanted_val (g := 22) (d := 40) (b := false) (c := false) rfl (by kernel_rfl) (show some (f 40) = some (.bool false) from congrArg some d22)]; rfl)]
    dsimp only at hK ⊢
    generalize f 40 = v40 at *
    subst d22
    have y0 : w1.cell? ⟨gx, 0, none⟩ = some (.bool lf) := (HXX.out.bel hG).cell 0
    have y1 : w1.cell? ⟨gx, 1, none⟩ = some (.slice Ax nk cx1) := (HXX.out.bel hG).cell 1
    have y2 : w1.cell? ⟨gx, 2, none⟩ = some (.slice Bx nv cx2) := (HXX.out.bel hG).cell 2
    have y3 : w1.cell? ⟨gx, 3, none⟩ = some (.slice Cx nc cx3) := (HXX.out.bel hG).cell 3
    go_simp
    exact hK.out _ _ hG rfl (fun _ _ _ h => h)
  · intro f w1 hG hF K hK
    have d22 : f 40 = .bool false := hF 22 (by kernel_rfl)
    clear hF
    rw [if_pos (by rw [wanted_val (g := 22) (d := 40) (b := false) (c := false) rfl (by kernel_rfl) (show some (f 40) = some (.bool false) from congrArg some d22)]; rfl)]
    dsimp only at hK ⊢
    generalize f 40 = v40 at *
    subst d22
    have y0 : w1.cell? ⟨w.heap.size, 0, none⟩ = some (.bool lf) := (HBX.out.bel hG).cell 0
    have y1 : w1.cell? ⟨w.heap.size, 1, none⟩ = some (.slice A nk ca) := (HBX.out.bel hG).cell 1
    have y2 : w1.cell? ⟨w.heap.size, 2, none⟩ = some (.slice B nv cb) := (HBX.out.bel hG).cell 2
    have y3 : w1.cell? ⟨w.heap.size, 3, none⟩ = some (.slice C nc cc) := (HBX.out.bel hG).cell 3
    go_simp
    exact hK.out _ _ hG rfl (fun _ _ _ h => h)
  · intro f w1 hG hF K hK
    have d22 : f 40 = .bool false := hF 22 (by kernel_rfl)
    have d23 : f 41 = .agg #[.bool lf, .slice Ax nk cx1, .slice Bx nv cx2, .slice Cx nc cx3] := hF 23 (by kernel_rfl)
    have d24 : f 42 = .agg #[.bool lf, .slice A nk ca, .slice B nv cb, .slice C nc cc] := hF 24 (by kernel_rfl)
    clear hF
    rw [if_pos (by rw [wanted_val (g := 22) (d := 40) (b := false) (c := false) rfl (by kernel_rfl) (show some (f 40) = some (.bool false) from congrArg some d22)]; rfl)]
    dsimp only at hK ⊢
    generalize f 40 = v40 at *
    generalize f 41 = v41 at *
    generalize f 42 = v42 at *
    subst d22
    subst d23
    subst d24
    go_simp
    refine (nsame_any lf ks vs cs Ax Bx Cx A B C nk cx1 nv cx2 nc cx3 ca cb cc w1 (HNX.out.bel hG) (HND.out.bel hG)).mono ?_
    rintro e w20 ⟨rfl, hb20⟩
    exact hK.out _ _ (hG.trans (hb20.mono hG.size)) rfl (fun j _ _ h => eF_bel hb20 j _ _ h)
  · intro f w1 hG hF K hK
    have d22 : f 40 = .bool false := hF 22 (by kernel_rfl)
    have d25 : f 43 = .bool true := hF 25 (by kernel_rfl)
    clear hF
    rw [if_pos (by rw [wanted_val (g := 22) (d := 40) (b := false) (c := false) rfl (by kernel_rfl) (show some (f 40) = some (.bool false) from congrArg some d22)]; rfl)]
    dsimp only at hK ⊢
    generalize f 40 = v40 at *
    generalize f 43 = v43 at *
    subst d22
    subst d25
    go_simp
    exact hK.out _ _ hG rfl (fun _ _ _ h => h)
  · refine StepA.guarded rfl ?_
    intro f w1 hG hF K hK
    have d22 : f 40 = .bool false := hF 22 (by kernel_rfl)
    have d26 : f 44 = .bool false := hF 26 (by kernel_rfl)
    clear hF
    dsimp only at hK ⊢
    generalize f 40 = v40 at *
    generalize f 44 = v44 at *
    subst d22
    subst d26
    go_simp
    exact hK.out _ _ hG rfl (fun _ _ _ h => h)
  intro f w20 hG hF
  have e27 : f 45 = .bool false := hF 27 (by decide)
  have HB20 := Lib.hid hG
  clear hF hG
  dsimp only
  generalize f 18 = v18
  generalize f 19 = v19
  generalize f 20 = v20
  generalize f 21 = v21
  generalize f 22 = v22
  generalize f 23 = v23
  generalize f 24 = v24
  generalize f 25 = v25
  generalize f 26 = v26
  generalize f 27 = v27
  generalize f 28 = v28
  generalize f 29 = v29
  generalize f 30 = v30
  generalize f 31 = v31
  generalize f 32 = v32
  generalize f 33 = v33
  generalize f 34 = v34
  generalize f 35 = v35
  generalize f 36 = v36
  generalize f 37 = v37
  generalize f 38 = v38
  generalize f 39 = v39
  generalize f 40 = v40
  generalize f 41 = v41
  generalize f 42 = v42
  generalize f 43 = v43
  generalize f 44 = v44
  generalize f 45 = v45 at *
  subst e27
  have HVf := HV8.out.bel HB20.out
  rcases HVf with ⟨hc0, g, rfl, hsg⟩ | ⟨hc0, rfl⟩
  · obtain rfl : ck = 0 := by rw [HCKE.out]; exact hc0
    obtain ⟨hf, hs⟩ := checkN_zero.1 hc0
    have HF := Lib.hid hf
    have HS := Lib.hid hs
    have hel : (encB ⟨lf, ks, vs, cs⟩).length = 256 := encB_length hf hs
    have HEL := Lib.hid hel
    have hnp := nodeP_enc ⟨lf, ks, vs, cs⟩ hf hs
    have HNP := Lib.hid hnp
    have HSG := Lib.hid hsg
    have HEB := Lib.hid (encB_lt ⟨lf, ks, vs, cs⟩ hf)
    rw [show ((0 : Nat) : Int) = 0 from rfl]
    clear hc0 hf hs hel hnp hsg
    have BB := Lib.hid (HB8.out.trans (HB20.out.mono HB8.out.size))
    have hz20 := BB.out.size
    go_wp2_with (at_builtin; refine wpList_append_seg _ rfl (.tmp 52) (.tmp 53) _ rfl w20.heap.size 5 i0 _ 1 Try.underlying27 hi0 hz0 hz1 hz2 rfl _ 0 _ rfl (World.ownsRow_lit w20 #[] 0 (by omega) (by decide) rfl) (some ⟨g, 0, none⟩) 256 256 (u8s (encB ⟨lf, ks, vs, cs⟩)) rfl (by rw [u8s_length, HEL.out]) (HSG.out.bel ((Below.refl _ _).alloc (Nat.le_refl _) _)) (u8s_one _) (by simp only [maxLen]; omega) (by omega) (by simp only [World.size_alloc]; omega) ?_; intro va wa hown1 hb1; simp only [Nat.zero_add, List.nil_append] at hown1; obtain ⟨A1, c1, rfl, hc1, s1⟩ := own_shape hown1; have S1 := Lib.hid s1; have B1 := Lib.hid (((Below.refl w20.heap.size w20).alloc (Nat.le_refl _) (.cells #[] 5)).trans hb1); clear hown1 hb1 s1)
    refine (dec_any A1 256 c1 (encB ⟨lf, ks, vs, cs⟩) HEL.out.symm hc1 HEB.out wa S1.out).mono ?_
    rintro e wb ⟨bb, hpost⟩
    rw [if_pos HEL.out, HNP.out] at hpost
    obtain ⟨A2, C2, D2, da, db, dc, rfl, hnd⟩ := hpost
    have Bb := Lib.hid (B1.out.trans (bb.mono B1.out.size))
    have ek : ks.length = nk := (HND.out.ek).symm
    have ev : vs.length = nv := (HND.out.ev).symm
    have ec : cs.length = nc := (HND.out.ec).symm
    simp only [ek, ev, ec] at hnd ⊢
    obtain ⟨wc, hwc⟩ : ∃ wc, wc = wb.alloc (.cells #[.bool lf, .slice A2 nk da, .slice C2 nv db, .slice D2 nc dc] 25) := ⟨_, rfl⟩
    have Bc : Below wb.heap.size wb wc := by rw [hwc]; exact (Below.refl _ _).alloc (Nat.le_refl _) _
    have HXc := Lib.hid (show Bk wc wb.heap.size 25 #[.bool lf, .slice A2 nk da, .slice C2 nv db, .slice D2 nc dc] by rw [hwc]; exact Bk.new wb _ _)
    have HBc := Lib.hid (Bb.out.trans (Bc.mono Bb.out.size))
    have HNc := Lib.hid (hnd.bel Bc)
    have HWc := Lib.hid hwc
    clear bb hnd hwc Bc ek ev ec
    have Z8 := HBX.out.bel (HB20.out.trans (HBc.out.mono HB20.out.size))
    have x0 : wc.cell? ⟨w.heap.size, 0, none⟩ = some (.bool lf) := Z8.cell 0
    have x1 : wc.cell? ⟨w.heap.size, 1, none⟩ = some (.slice A nk ca) := Z8.cell 1
    have x2 : wc.cell? ⟨w.heap.size, 2, none⟩ = some (.slice B nv cb) := Z8.cell 2
    have x3 : wc.cell? ⟨w.heap.size, 3, none⟩ = some (.slice C nc cc) := Z8.cell 3
    have NDc := Lib.hid (HND.out.bel (HB20.out.trans (HBc.out.mono HB20.out.size)))
    have SGc := Lib.hid (HSG.out.bel HBc.out)
    have RE := Lib.hid (renc_any ⟨lf, ks, vs, cs⟩ A B C nk ca nv cb nc cc wc NDc.out HF.out HS.out)
    have ZZ := Lib.hid Z8
    clear Z8
    go_upto_region 9 with fail
    rw [← HWc.out]
    go_wp2_with fail
    refine RE.out.mono ?_
    rintro e wd ⟨⟨A6, c6, rfl, hc6, s6⟩, b6⟩
    have S6 := Lib.hid s6
    have SG6 := Lib.hid (SGc.out.bel b6)
    have ND6 := Lib.hid (NDc.out.bel b6)
    have XX6 := Lib.hid (HXc.out.bel b6)
    have NN6 := Lib.hid (HNc.out.bel b6)
    have ZZ6 := Lib.hid (ZZ.out.bel b6)
    have B6 := Lib.hid (BB.out.trans ((HBc.out.trans (b6.mono HBc.out.size)).mono hz20))
    clear s6 b6 x0 x1 x2 x3
    have SM := same_u8 (some ⟨g, 0, none⟩) A6 256 256 256 c6 (encB ⟨lf, ks, vs, cs⟩) (encB ⟨lf, ks, vs, cs⟩) HEL.out.symm HEL.out.symm wd SG6.out S6.out (by omega) (by omega)
    rw [show decide (encB ⟨lf, ks, vs, cs⟩ = encB ⟨lf, ks, vs, cs⟩) = true by simp] at SM
    have SM := Lib.hid SM
    go_wp2_with fail
    refine SM.out.mono ?_
    rintro e we ⟨rfl, b7⟩
    have ND7 := Lib.hid (ND6.out.bel b7)
    have NN7 := Lib.hid (NN6.out.bel b7)
    have X7 := XX6.out.bel b7
    have Z7 := ZZ6.out.bel b7
    have x0 : we.cell? ⟨w.heap.size, 0, none⟩ = some (.bool lf) := Z7.cell 0
    have x1 : we.cell? ⟨w.heap.size, 1, none⟩ = some (.slice A nk ca) := Z7.cell 1
    have x2 : we.cell? ⟨w.heap.size, 2, none⟩ = some (.slice B nv cb) := Z7.cell 2
    have x3 : we.cell? ⟨w.heap.size, 3, none⟩ = some (.slice C nc cc) := Z7.cell 3
    have y0 : we.cell? ⟨wb.heap.size, 0, none⟩ = some (.bool lf) := X7.cell 0
    have y1 : we.cell? ⟨wb.heap.size, 1, none⟩ = some (.slice A2 nk da) := X7.cell 1
    have y2 : we.cell? ⟨wb.heap.size, 2, none⟩ = some (.slice C2 nv db) := X7.cell 2
    have y3 : we.cell? ⟨wb.heap.size, 3, none⟩ = some (.slice D2 nc dc) := X7.cell 3
    have B7 := Lib.hid (B6.out.trans (b7.mono B6.out.size))
    have NS := Lib.hid (nsame_any lf ks vs cs A2 C2 D2 A B C nk da nv db nc dc ca cb cc we NN7.out ND7.out)
    clear b7 X7 Z7
    go_wp2_with fail
    refine NS.out.mono ?_
    rintro e wf ⟨rfl, b8⟩
    have B8 := Lib.hid (B7.out.trans (b8.mono B7.out.size))
    clear b8 x0 x1 x2 x3 y0 y1 y2 y3
    go_wp2_with fail
    go_ret
    exact ⟨rfl, HB0.out.trans (B8.out.mono HB0.out.size)⟩
  · have i1 : ((ck : Int) != 0) = true := by rw [bne_iff_ne]; have := HCKE.out; omega
    have BB := Lib.hid (HB8.out.trans (HB20.out.mono HB8.out.size))
    clear hc0
    go_wp2_with fail
    go_ret
    exact ⟨rfl, HB0.out.trans (BB.out.mono HB0.out.size)⟩
end Go.Proofs.Ytcnfnfnmpifahaa
