/- The reference's Halve. Condition: the node is in form and has keys enough, and its rows lie in memory. -/
import Derived.Test.YtcnfnfnmpifahaaRest
import Derived.Test.YtcnfnfnmpifahaaHalvesM
import Derived.Test.YtcnfnfnmpifahaaEncM
namespace Go.Proofs.Ytcnfnfnmpifahaa
open Go.RowKit

def rhF (w0 : World) (n : NodeM) (k lo hi : Nat) (ag : Value) (S1 S2 G : Nat) (i : Nat) (v _u : Value) (w : World) : Prop := match i with
  | 0 => v = ag
  | 1 => v = .int .i64 (k : Int)
  | 2 => NodeV w0 (partM n 0 k) v w
  | 3 => v = .int .i64 (S1 : Int)
  | 4 => v = ag
  | 5 => v = .int .i64 (k : Int)
  | 6 => NodeV w0 (partM n lo hi) v w
  | 7 => v = .int .i64 (S2 : Int)
  | 8 => v = .int .i64 (G : Int)
  | 9 => v = .int .i64 (G : Int)
  | _ => True
theorem rhF.bel {w0 : World} {n : NodeM} {k lo hi : Nat} {ag : Value} {S1 S2 G : Nat} {w w' : World} (h : Below w.heap.size w w') : ∀ j u u', rhF w0 n k lo hi ag S1 S2 G j u u' w → rhF w0 n k lo hi ag S1 S2 G j u u' w' := by
  intro j u u' hh
  unfold rhF at *
  split at hh <;> first | exact hh | exact NodeV.bel hh h
def rhG (w0 : World) (g2 g4 : Nat) (n : NodeM) (mid lo hi : Nat) (key : ByteArray) (ag kv : Value) (g1 b off : Nat) (i : Nat) (v _u : Value) (w : World) : Prop := match i with
  | 0 => v = ag
  | 1 => v = .int .i64 (mid : Int)
  | 2 => NodeV w0 (partM n 0 mid) v w
  | 3 => v = .pointer (some ⟨g1, 1, none⟩)
  | 4 => v = kv
  | 5 => v = .int .i64 (mid : Int)
  | 6 => v = .pointer (some ⟨b, off + mid, none⟩)
  | 7 => v = .string key
  | 8 => v = ag
  | 9 => v = .int .i64 (mid : Int)
  | 10 => NodeV w0 (partM n lo hi) v w
  | 11 => ∃ a1 a2 a3, Bk w g2 25 #[.bool n.leaf, a1, a2, a3] ∧ NodeV w0 (partM n 0 mid) (.agg #[.bool n.leaf, a1, a2, a3]) w
  | 12 => v = .string key
  | 13 => ∃ a1 a2 a3, Bk w g4 25 #[.bool n.leaf, a1, a2, a3] ∧ NodeV w0 (partM n lo hi) (.agg #[.bool n.leaf, a1, a2, a3]) w
  | _ => True
section
variable {w0 : World} {g2 g4 : Nat} {n : NodeM} {mid lo hi : Nat} {key : ByteArray} {ag kv : Value} {g1 b off : Nat}
theorem rhG.bel {w w' : World} (k : Below w.heap.size w w') : ∀ j u u', rhG w0 g2 g4 n mid lo hi key ag kv g1 b off j u u' w → rhG w0 g2 g4 n mid lo hi key ag kv g1 b off j u u' w' := by
  intro j u u' h
  unfold rhG at *
  split at h <;> first | exact h | exact NodeV.bel h k | skip
  all_goals
    obtain ⟨a1, a2, a3, h1, h2⟩ := h
    exact ⟨a1, a2, a3, h1.bel k, h2.bel k⟩
theorem rhG.kept {w w' : World} {g : Nat} {ds : Array Value} (hb : Bk w g 25 ds) (k : Kept1 g w w') : ∀ j, ¬ (j = 11 ∧ g = g2) → ¬ (j = 13 ∧ g = g4) → ∀ u u', rhG w0 g2 g4 n mid lo hi key ag kv g1 b off j u u' w → rhG w0 g2 g4 n mid lo hi key ag kv g1 b off j u u' w' := by
  intro j h17 h19 u u' h
  unfold rhG at *
  split at h <;> first | exact h | exact NodeV.kept h hb k | skip
  all_goals
    obtain ⟨a1, a2, a3, h1, h2⟩ := h
    exact ⟨a1, a2, a3, bk_kept h1 (by intro e; simp_all) k, h2.kept hb k⟩
end
theorem part_bounds {w : World} {n : NodeM} {A B C : Option Addr} {nk ca nv cb nc cc : Nat} (h : Nd w n A B C nk ca nv cb nc cc) (lo hi : Nat) :
    (partM n lo hi).keys.length ≤ 8796093022208 ∧ (partM n lo hi).vals.length ≤ 8796093022208 ∧ (partM n lo hi).kids.length ≤ 17592186044416 ∧ (∀ s ∈ (partM n lo hi).keys, s.size ≤ 140737488355328) ∧ (∀ s ∈ (partM n lo hi).vals, s.size ≤ 140737488355328) := by
  have cut : ∀ {α : Type} (l : List α) (a b : Nat), ((l.take b).drop a).length ≤ l.length := fun l a b => by rw [List.length_drop, List.length_take]; omega
  have mem : ∀ {α : Type} {l : List α} {a b : Nat} {x : α}, x ∈ (l.take b).drop a → x ∈ l := fun h => List.mem_of_mem_take (List.mem_of_mem_drop h)
  obtain ⟨lf, ks, vs, cs⟩ := n
  have e1 : ks.length ≤ 8796093022208 := by have := h.bk; rw [h.ek] at this; exact this
  have e2 : vs.length ≤ 8796093022208 := by have := h.bv; rw [h.ev] at this; exact this
  have e3 : cs.length ≤ 17592186044416 := by have := h.bc; rw [h.ec] at this; exact this
  cases lf
  · exact ⟨Nat.le_trans (cut ks lo hi) e1, Nat.zero_le _, Nat.le_trans (cut cs lo (hi + 1)) e3, fun s hs => h.zk s (mem hs), fun s hs => by cases hs⟩
  · exact ⟨Nat.le_trans (cut ks lo hi) e1, Nat.le_trans (cut vs lo hi) e2, Nat.zero_le _, fun s hs => h.zk s (mem hs), fun s hs => h.zv s (mem hs)⟩
theorem max_nat (a b : Nat) : (if a < b then (b : Int) else (a : Int)) = ((max a b : Nat) : Int) := by
  rw [Nat.max_def]
  split <;> split <;> omega
set_option maxRecDepth 100000 in
set_option maxHeartbeats 4000000 in
theorem rhalve_leaf (ks vs : List ByteArray) (cs : List Int) (b off : Nat) (B C : Option Addr) (nk ca nv cb nc cc : Nat) (w : World) (h : Nd w ⟨true, ks, vs, cs⟩ (some ⟨b, off, none⟩) B C nk ca nv cb nc cc) (hf : formB ⟨true, ks, vs, cs⟩ = true) (hn : 2 + betN true ≤ nk) :
    Calls Try.prog 26 #[.agg #[.bool true, .slice (some ⟨b, off, none⟩) nk ca, .slice B nv cb, .slice C nc cc]] w fun e w' => (∃ v1 v2, e = .returned (.tuple #[v1, .string (ks.getD (midN ⟨true, ks, vs, cs⟩) ByteArray.empty), v2]) ∧ NodeV w (partM ⟨true, ks, vs, cs⟩ 0 (midN ⟨true, ks, vs, cs⟩)) v1 w' ∧ NodeV w (partM ⟨true, ks, vs, cs⟩ (midN ⟨true, ks, vs, cs⟩ + betN true) nk) v2 w') ∧ Below w.heap.size w w' := by
  have hn' : 2 + 0 ≤ nk := hn
  have H := Lib.hid h
  have HF := Lib.hid hf
  have bk := h.bk
  have EK := Lib.hid (show nk = ks.length from h.ek)
  have HGC := Lib.hid (show ∀ k, k + 0 ≤ ks.length → max (sizeN (partM ⟨true, ks, vs, cs⟩ 0 k)) (sizeN (partM ⟨true, ks, vs, cs⟩ (k + 0) ks.length)) = greatN ⟨true, ks, vs, cs⟩ k from fun k hk => great_cut (fun e => by first | exact (form_leaf_eq hf).1 | cases e) k hk)
  have SZ := Lib.hid (show sizeN ⟨true, ks, vs, cs⟩ ≤ 4 + nk * 123 by
    have := form_sum_le hf nk
    have e : nk = ks.length := h.ek
    unfold sizeN
    show headN true + sumN ⟨true, ks, vs, cs⟩ ks.length ≤ _
    rw [← e]
    unfold headN; split <;> omega)
  have EL := Lib.hid (show limN ⟨true, ks, vs, cs⟩ = nk - 0 - 1 by unfold limN; rw [show nk = ks.length from h.ek]; rfl)
  obtain ⟨w1, hw1⟩ : ∃ w1, w1 = ((w.alloc (.cells #[.bool true, .slice (some ⟨b, off, none⟩) nk ca, .slice B nv cb, .slice C nc cc] 25)).alloc (.cells #[.bool false, .slice none 0 0, .slice none 0 0, .slice none 0 0] 25)).alloc (.cells #[.bool false, .slice none 0 0, .slice none 0 0, .slice none 0 0] 25) := ⟨_, rfl⟩
  have H0 := Lib.hid (show HvW w w.heap.size (w.heap.size + 1) (w.heap.size + 1 + 1) #[.bool true, .slice (some ⟨b, off, none⟩) nk ca, .slice B nv cb, .slice C nc cc] w1 by
    rw [hw1]
    have k1 := Bk.new (w.alloc (.cells #[.bool true, .slice (some ⟨b, off, none⟩) nk ca, .slice B nv cb, .slice C nc cc] 25)) 25 #[.bool false, .slice none 0 0, .slice none 0 0, .slice none 0 0]
    have k2 := Bk.new ((w.alloc (.cells #[.bool true, .slice (some ⟨b, off, none⟩) nk ca, .slice B nv cb, .slice C nc cc] 25)).alloc (.cells #[.bool false, .slice none 0 0, .slice none 0 0, .slice none 0 0] 25)) 25 #[.bool false, .slice none 0 0, .slice none 0 0, .slice none 0 0]
    rw [World.size_alloc] at k1
    rw [World.size_alloc, World.size_alloc] at k2
    exact ⟨((Bk.new w _ _).alloc _).alloc _, (((Below.refl _ _).alloc (Nat.le_refl _) _).alloc (by simp) _).alloc (by simp; omega) _, ⟨_, rfl, k1.alloc _⟩, ⟨_, rfl, k2⟩⟩)
  have HW := Lib.hid hw1
  clear h hf hw1 hn
  go_enter Try.func26, Try.ntmps26
  go_wp2_with fail
  rw [← HW.out]
  go_loopw [5, 6, 7] (fun s5 s6 s7 wr => ∃ j p q : Nat, j ≤ limN ⟨true, ks, vs, cs⟩ ∧ s7 = .int .i64 ((j : Int) + 1) ∧ s5 = .int .i64 (p : Int) ∧ s6 = .int .i64 (q : Int) ∧ Hid (bestTo ⟨true, ks, vs, cs⟩ j = (p, q)) ∧ HvW w w.heap.size (w.heap.size + 1) (w.heap.size + 1 + 1) #[.bool true, .slice (some ⟨b, off, none⟩) nk ca, .slice B nv cb, .slice C nc cc] wr) (fun _ _ s7 _ => nk - (intOf s7).toNat)
  case atStart => exact ⟨0, 0, 0, Nat.zero_le _, rfl, rfl, rfl, Lib.hid rfl, H0.out⟩
  case round =>
    obtain ⟨j, p, q, hj, rfl, rfl, rfl, HB, hG⟩ := hrel
    have H3 := Lib.hid hG
    have y0 := hG.bk.cell 0
    have y1 := hG.bk.cell 1
    have y2 := hG.bk.cell 2
    have y3 := hG.bk.cell 3
    have hjn : j + 1 ≤ nk := by have := EL.out; omega
    have p1 : p ≤ nk := by
      have := bestTo_le ⟨true, ks, vs, cs⟩ j
      rw [HB.out] at this
      simp only at this
      omega
    have q1 : q ≤ 4 + nk * 123 := by
      have := bestTo_size ⟨true, ks, vs, cs⟩ j (show j ≤ ks.length by have := EK.out; omega)
      rw [HB.out] at this
      have h2 := SZ.out
      simp only at this
      omega
    clear hG
    have t1 : IntKind.i64.wrap ((nk : Int) - 1) = (nk : Int) - 1 := by rw [IntKind.wrap_i64]; omega
    by_cases hlt : j < limN ⟨true, ks, vs, cs⟩
    · have hk1 : j + 1 + 0 < nk := by have := EL.out; omega
      have l1 : decide ((j : Int) + 1 < (nk : Int)) = true := by simp; omega
      go_wp2_with fail
      obtain ⟨S1, hS1⟩ : ∃ s, s = sizeN (partM ⟨true, ks, vs, cs⟩ 0 (j + 1)) := ⟨_, rfl⟩
      obtain ⟨S2, hS2⟩ : ∃ s, s = sizeN (partM ⟨true, ks, vs, cs⟩ (j + 1 + betN true) nk) := ⟨_, rfl⟩
      have hGR : max S1 S2 = greatN ⟨true, ks, vs, cs⟩ (j + 1) := by
        rw [hS1, hS2, EK.out]
        exact HGC.out (j + 1) (show j + 1 + 0 ≤ ks.length by have := EK.out; omega)
      have hGS : greatN ⟨true, ks, vs, cs⟩ (j + 1) ≤ 4 + nk * 123 := Nat.le_trans (great_le (j + 1) (show j + 1 ≤ ks.length by have := EK.out; omega)) SZ.out
      have w1b : IntKind.i64.wrap (S1 : Int) = (S1 : Int) := by rw [IntKind.wrap_i64]; omega
      have w2b : IntKind.i64.wrap (S2 : Int) = (S2 : Int) := by rw [IntKind.wrap_i64]; omega
      have W1 := Lib.hid w1b
      have W2 := Lib.hid w2b
      have HS1 := Lib.hid hS1
      have HS2 := Lib.hid hS2
      have HGR := Lib.hid hGR
      clear hS1 hS2 hGR w1b w2b y0 y1 y2 y3 l1 t1
      refine wp_region_list [some 28, some 29, some 30, some 31, some 32, some 33, some 34, some 35, some 36, some 8] (fun _ => 0) (rhF w ⟨true, ks, vs, cs⟩ (j + 1) (j + 1 + betN true) nk (.agg #[.bool true, .slice (some ⟨b, off, none⟩) nk ca, .slice B nv cb, .slice C nc cc]) S1 S2 (greatN ⟨true, ks, vs, cs⟩ (j + 1))) (HvW w w.heap.size (w.heap.size + 1) (w.heap.size + 1 + 1) #[.bool true, .slice (some ⟨b, off, none⟩) nk ca, .slice B nv cb, .slice C nc cc]) (by kernel_rfl) (H3.out.step (Below.refl _ _).drew) rfl (by kernel_rfl) (by kernel_rfl) (by kernel_rfl) (by kernel_rfl) (fun T hT => ?_)
      simp only [List.filterMap_cons, List.filterMap_nil, id, putsS, Act.put, List.setIfInBounds_toArray, List.set_cons_zero, List.set_cons_succ] at hT
      subst hT
      refine ⟨⟨?_, ?_, ?_, ?_, ?_, ?_, ?_, ?_, ?_, ?_, trivial⟩, ?_⟩
      · -- 0: Op.load 25 t1
        refine StepL.act ?_
        intro f w1 hG hF K hK
        clear hF
        dsimp only at hK ⊢
        have y0 := hG.bk.cell 0
        have y1 := hG.bk.cell 1
        have y2 := hG.bk.cell 2
        have y3 := hG.bk.cell 3
        go_simp
        exact hK.out _ _ hG rfl (fun _ _ _ _ h => h)
      · -- 1: Op.move t7
        refine StepL.act ?_
        intro f w1 hG hF K hK
        clear hF
        dsimp only at hK ⊢
        go_simp
        exact hK.out _ _ hG (show Value.int .i64 ((j : Int) + 1) = Value.int .i64 ((j + 1 : Nat) : Int) by go_num) (fun _ _ _ _ h => h)
      · -- 2: Op.call ( value (Operand.func 40), args := #[t28, const (0:i64), t29], argTypes 
        refine StepL.act ?_
        intro f w1 hG hF K hK
        have d0 : (rhF w ⟨true, ks, vs, cs⟩ (j + 1) (j + 1 + betN true) nk (.agg #[.bool true, .slice (some ⟨b, off, none⟩) nk ca, .slice B nv cb, .slice C nc cc]) S1 S2 (greatN ⟨true, ks, vs, cs⟩ (j + 1))) 0 (f 28) (f 0) w1 := hF 0 (by kernel_rfl)
        have d1 : (rhF w ⟨true, ks, vs, cs⟩ (j + 1) (j + 1 + betN true) nk (.agg #[.bool true, .slice (some ⟨b, off, none⟩) nk ca, .slice B nv cb, .slice C nc cc]) S1 S2 (greatN ⟨true, ks, vs, cs⟩ (j + 1))) 1 (f 29) (f 0) w1 := hF 1 (by kernel_rfl)
        clear hF
        dsimp only at hK ⊢
        generalize f 28 = v28 at *
        generalize f 29 = v29 at *
        subst d0 d1
        have CL := Lib.hid (rpart_any ⟨true, ks, vs, cs⟩ (some ⟨b, off, none⟩) B C nk ca nv cb nc cc 0 (j + 1) w1 (H.out.bel hG.bel) HF.out (by omega) (by omega) (by omega) 0 ((j + 1 : Nat) : Int) rfl rfl)
        go_simp
        refine (CL.out).mono ?_
        rintro e w2' ⟨⟨v, rfl, hv⟩, hb⟩
        exact hK.out _ _ (hG.step hb) (hv.mono hG.bel.size) (fun j _ u u' h => rhF.bel hb j u u' h)
      · -- 3: Op.call ( value (Operand.func 13), args := #[t30], argTypes := #[25] )
        refine StepL.act ?_
        intro f w1 hG hF K hK
        have d2 : (rhF w ⟨true, ks, vs, cs⟩ (j + 1) (j + 1 + betN true) nk (.agg #[.bool true, .slice (some ⟨b, off, none⟩) nk ca, .slice B nv cb, .slice C nc cc]) S1 S2 (greatN ⟨true, ks, vs, cs⟩ (j + 1))) 2 (f 30) (f 0) w1 := hF 2 (by kernel_rfl)
        clear hF
        dsimp only at hK ⊢
        generalize f 30 = v30 at *
        have q := part_bounds (H.out) 0 (j + 1)
        obtain ⟨A', B', C', c1, c2, c3, hv, N⟩ := NodeV.nd (show NodeV w (partM ⟨true, ks, vs, cs⟩ 0 (j + 1)) _ w1 from d2) q.1 q.2.1 q.2.2.1 q.2.2.2.1 q.2.2.2.2
        subst hv
        have CL := Lib.hid (rsize_any _ A' B' C' _ c1 _ c2 _ c3 w1 N)
        rw [← HS1.out, W1.out] at CL
        go_simp
        refine CL.out.mono ?_
        rintro e w2' ⟨rfl, hb⟩
        exact hK.out _ _ (hG.step hb) rfl (fun j _ u u' h => rhF.bel hb j u u' h)
      · -- 4: Op.load 25 t1
        refine StepL.act ?_
        intro f w1 hG hF K hK
        clear hF
        dsimp only at hK ⊢
        have y0 := hG.bk.cell 0
        have y1 := hG.bk.cell 1
        have y2 := hG.bk.cell 2
        have y3 := hG.bk.cell 3
        go_simp
        exact hK.out _ _ hG rfl (fun _ _ _ _ h => h)
      · -- 5: Op.move t7
        refine StepL.act ?_
        intro f w1 hG hF K hK
        clear hF
        dsimp only at hK ⊢
        go_simp
        exact hK.out _ _ hG (show Value.int .i64 ((j : Int) + 1) = Value.int .i64 ((j + 1 : Nat) : Int) by go_num) (fun _ _ _ _ h => h)
      · -- 6: Op.call ( value (Operand.func 41), args := #[t32, t33], argTypes := #[25, 3] )
        refine StepL.act ?_
        intro f w1 hG hF K hK
        have d4 : (rhF w ⟨true, ks, vs, cs⟩ (j + 1) (j + 1 + betN true) nk (.agg #[.bool true, .slice (some ⟨b, off, none⟩) nk ca, .slice B nv cb, .slice C nc cc]) S1 S2 (greatN ⟨true, ks, vs, cs⟩ (j + 1))) 4 (f 32) (f 0) w1 := hF 4 (by kernel_rfl)
        have d5 : (rhF w ⟨true, ks, vs, cs⟩ (j + 1) (j + 1 + betN true) nk (.agg #[.bool true, .slice (some ⟨b, off, none⟩) nk ca, .slice B nv cb, .slice C nc cc]) S1 S2 (greatN ⟨true, ks, vs, cs⟩ (j + 1))) 5 (f 33) (f 0) w1 := hF 5 (by kernel_rfl)
        clear hF
        dsimp only at hK ⊢
        generalize f 32 = v32 at *
        generalize f 33 = v33 at *
        subst d4 d5
        have CL := Lib.hid (rest_any true ks vs cs (some ⟨b, off, none⟩) B C nk ca nv cb nc cc (j + 1) w1 (H.out.bel hG.bel) HF.out (show j + 1 + 0 < nk by omega) ((j + 1 : Nat) : Int) rfl)
        go_simp
        refine (CL.out).mono ?_
        rintro e w2' ⟨⟨v, rfl, hv⟩, hb⟩
        exact hK.out _ _ (hG.step hb) (hv.mono hG.bel.size) (fun j _ u u' h => rhF.bel hb j u u' h)
      · -- 7: Op.call ( value (Operand.func 13), args := #[t34], argTypes := #[25] )
        refine StepL.act ?_
        intro f w1 hG hF K hK
        have d6 : (rhF w ⟨true, ks, vs, cs⟩ (j + 1) (j + 1 + betN true) nk (.agg #[.bool true, .slice (some ⟨b, off, none⟩) nk ca, .slice B nv cb, .slice C nc cc]) S1 S2 (greatN ⟨true, ks, vs, cs⟩ (j + 1))) 6 (f 34) (f 0) w1 := hF 6 (by kernel_rfl)
        clear hF
        dsimp only at hK ⊢
        generalize f 34 = v34 at *
        have q := part_bounds (H.out) (j + 1 + betN true) nk
        obtain ⟨A', B', C', c1, c2, c3, hv, N⟩ := NodeV.nd (show NodeV w (partM ⟨true, ks, vs, cs⟩ (j + 1 + betN true) nk) _ w1 from d6) q.1 q.2.1 q.2.2.1 q.2.2.2.1 q.2.2.2.2
        subst hv
        have CL := Lib.hid (rsize_any _ A' B' C' _ c1 _ c2 _ c3 w1 N)
        rw [← HS2.out, W2.out] at CL
        go_simp
        refine CL.out.mono ?_
        rintro e w2' ⟨rfl, hb⟩
        exact hK.out _ _ (hG.step hb) rfl (fun j _ u u' h => rhF.bel hb j u u' h)
      · -- 8: Op.call ( builtin max, args := #[t31, t35], argTypes := #[3, 3] )
        refine StepL.act ?_
        intro f w1 hG hF K hK
        have d3 : (rhF w ⟨true, ks, vs, cs⟩ (j + 1) (j + 1 + betN true) nk (.agg #[.bool true, .slice (some ⟨b, off, none⟩) nk ca, .slice B nv cb, .slice C nc cc]) S1 S2 (greatN ⟨true, ks, vs, cs⟩ (j + 1))) 3 (f 31) (f 0) w1 := hF 3 (by kernel_rfl)
        have d7 : (rhF w ⟨true, ks, vs, cs⟩ (j + 1) (j + 1 + betN true) nk (.agg #[.bool true, .slice (some ⟨b, off, none⟩) nk ca, .slice B nv cb, .slice C nc cc]) S1 S2 (greatN ⟨true, ks, vs, cs⟩ (j + 1))) 7 (f 35) (f 0) w1 := hF 7 (by kernel_rfl)
        clear hF
        dsimp only at hK ⊢
        generalize f 31 = v31 at *
        generalize f 35 = v35 at *
        subst d3 d7
        go_simp
        exact hK.out _ _ hG (show Value.int .i64 (if S1 < S2 then (S2 : Int) else (S1 : Int)) = Value.int .i64 ((greatN ⟨true, ks, vs, cs⟩ (j + 1) : Nat) : Int) by rw [max_nat, HGR.out]) (fun _ _ _ _ h => h)
      · -- 9: Op.assign t36
        refine StepL.act ?_
        intro f w1 hG hF K hK
        have d8 : (rhF w ⟨true, ks, vs, cs⟩ (j + 1) (j + 1 + betN true) nk (.agg #[.bool true, .slice (some ⟨b, off, none⟩) nk ca, .slice B nv cb, .slice C nc cc]) S1 S2 (greatN ⟨true, ks, vs, cs⟩ (j + 1))) 8 (f 36) (f 0) w1 := hF 8 (by kernel_rfl)
        clear hF
        dsimp only at hK ⊢
        generalize f 36 = v36 at *
        subst d8
        go_simp
        exact hK.out _ _ hG rfl (fun _ _ _ _ h => h)
      · intro f w3 hG hF
        have e8 : f 8 = .int .i64 ((greatN ⟨true, ks, vs, cs⟩ (j + 1) : Nat) : Int) := hF 9 (by decide)
        have H4 := Lib.hid hG
        clear hF hG H3
        dsimp only
        generalize f 28 = v28 at *
        generalize f 29 = v29 at *
        generalize f 30 = v30 at *
        generalize f 31 = v31 at *
        generalize f 32 = v32 at *
        generalize f 33 = v33 at *
        generalize f 34 = v34 at *
        generalize f 35 = v35 at *
        generalize f 36 = v36 at *
        generalize f 8 = v8 at *
        subst e8
        by_cases hp : p = 0
        · have hp1 : ((p : Int) == 0) = true := by simp [hp]
          have HN := Lib.hid (best_new (n := ⟨true, ks, vs, cs⟩) (j := j) (Or.inl (by rw [HB.out]; exact hp)))
          clear hp
          go_wp2_with fail
          go_roundw
          case rel => exact ⟨j + 1, j + 1, greatN ⟨true, ks, vs, cs⟩ (j + 1), by omega, by go_num, by go_num, rfl, HN, H4.out⟩
          case measure => simp [intOf]; omega
        · have hp1 : ((p : Int) == 0) = false := by simp [hp]
          by_cases hq : greatN ⟨true, ks, vs, cs⟩ (j + 1) < q
          · have hq1 : decide (greatN ⟨true, ks, vs, cs⟩ (j + 1) < q) = true := by simp; exact hq
            have hq2 : decide ((greatN ⟨true, ks, vs, cs⟩ (j + 1) : Int) < (q : Int)) = true := by simp; exact hq
            have HN := Lib.hid (best_new (n := ⟨true, ks, vs, cs⟩) (j := j) (Or.inr (by rw [HB.out]; exact hq)))
            clear hp hq
            go_wp2_with fail
            go_roundw
            case rel => exact ⟨j + 1, j + 1, greatN ⟨true, ks, vs, cs⟩ (j + 1), by omega, by go_num, by go_num, rfl, HN, H4.out⟩
            case measure => simp [intOf]; omega
          · have hq1 : decide (greatN ⟨true, ks, vs, cs⟩ (j + 1) < q) = false := by simp; omega
            have hq2 : decide ((greatN ⟨true, ks, vs, cs⟩ (j + 1) : Int) < (q : Int)) = false := by simp; omega
            have HN := Lib.hid ((best_old (n := ⟨true, ks, vs, cs⟩) (j := j) (by rw [HB.out]; exact hp) (by rw [HB.out]; exact hq)).trans HB.out)
            clear hp hq
            go_wp2_with fail
            go_roundw
            case rel => exact ⟨j + 1, p, q, by omega, by go_num, rfl, rfl, HN, H4.out⟩
            case measure => simp [intOf]; omega
    · have HJ := Lib.hid (show j = limN ⟨true, ks, vs, cs⟩ by omega)
      have l1 : decide ((j : Int) + 1 < (nk : Int)) = false := by have := EL.out; simp; omega
      have hm1 : 1 ≤ p := by
        have := bestTo_pos ⟨true, ks, vs, cs⟩ j (by have := HJ.out; have := EL.out; omega)
        rw [HB.out] at this
        exact this
      have hm2 : p + 0 < nk := by
        have := bestTo_le ⟨true, ks, vs, cs⟩ j
        rw [HB.out] at this
        simp only at this
        have := HJ.out
        have := EL.out
        omega
      have hml : p < ks.length := by have := EK.out; omega
      have HKY := Lib.hid (getD_at hml)
      have HM := Lib.hid (show midN ⟨true, ks, vs, cs⟩ = p by unfold midN; rw [← HJ.out, HB.out])
      have HNK := Lib.hid hn'
      have ka := H.out.ka
      clear hlt hj
      go_wp2_with fail
      refine wp_region_list [some 46, some 47, some 48, some 49, some 50, some 51, some 52, some 53, some 54, some 55, some 56, none, some 3, none] (fun _ => 0) (rhG w (w.heap.size + 1) (w.heap.size + 1 + 1) ⟨true, ks, vs, cs⟩ p p nk ks[p] (.agg #[.bool true, .slice (some ⟨b, off, none⟩) nk ca, .slice B nv cb, .slice C nc cc]) (.slice (some ⟨b, off, none⟩) nk ca) w.heap.size b off) (HvW w w.heap.size (w.heap.size + 1) (w.heap.size + 1 + 1) #[.bool true, .slice (some ⟨b, off, none⟩) nk ca, .slice B nv cb, .slice C nc cc]) (by kernel_rfl) (H3.out.step (Below.refl _ _).drew) rfl (by kernel_rfl) (by kernel_rfl) (by kernel_rfl) (by kernel_rfl) (fun T hT => ?_)
      simp only [List.filterMap_cons, List.filterMap_nil, id, putsS, Act.put, List.setIfInBounds_toArray, List.set_cons_zero, List.set_cons_succ] at hT
      subst hT
      refine ⟨⟨?_, ?_, ?_, ?_, ?_, ?_, ?_, ?_, ?_, ?_, ?_, ?_, ?_, ?_, trivial⟩, ?_⟩
      · -- 0: Op.load 25 t1
        refine StepL.act ?_
        intro f w1 hG hF K hK
        clear hF
        dsimp only at hK ⊢
        have y0 := hG.bk.cell 0
        have y1 := hG.bk.cell 1
        have y2 := hG.bk.cell 2
        have y3 := hG.bk.cell 3
        go_simp
        exact hK.out _ _ hG rfl (fun _ _ _ _ h => h)
      · -- 1: Op.move t5
        refine StepL.act ?_
        intro f w1 hG hF K hK
        clear hF
        dsimp only at hK ⊢
        go_simp
        exact hK.out _ _ hG rfl (fun _ _ _ _ h => h)
      · -- 2: Op.call ( value (Operand.func 40), args := #[t46, const (0:i64), t47], argTypes 
        refine StepL.act ?_
        intro f w1 hG hF K hK
        have d0 : (rhG w (w.heap.size + 1) (w.heap.size + 1 + 1) ⟨true, ks, vs, cs⟩ p p nk ks[p] (.agg #[.bool true, .slice (some ⟨b, off, none⟩) nk ca, .slice B nv cb, .slice C nc cc]) (.slice (some ⟨b, off, none⟩) nk ca) w.heap.size b off) 0 (f 46) (f 0) w1 := hF 0 (by kernel_rfl)
        have d1 : (rhG w (w.heap.size + 1) (w.heap.size + 1 + 1) ⟨true, ks, vs, cs⟩ p p nk ks[p] (.agg #[.bool true, .slice (some ⟨b, off, none⟩) nk ca, .slice B nv cb, .slice C nc cc]) (.slice (some ⟨b, off, none⟩) nk ca) w.heap.size b off) 1 (f 47) (f 0) w1 := hF 1 (by kernel_rfl)
        clear hF
        dsimp only at hK ⊢
        generalize f 46 = v46 at *
        generalize f 47 = v47 at *
        subst d0 d1
        have CL := Lib.hid (rpart_any ⟨true, ks, vs, cs⟩ (some ⟨b, off, none⟩) B C nk ca nv cb nc cc 0 p w1 (H.out.bel hG.bel) HF.out (by omega) (by omega) (by omega) 0 (p : Int) rfl rfl)
        go_simp
        refine CL.out.mono ?_
        rintro e w2' ⟨⟨v, rfl, hv⟩, hb⟩
        exact hK.out _ _ (hG.step hb) (hv.mono hG.bel.size) (fun j _ u u' h => rhG.bel hb j u u' h)
      · -- 3: Op.fieldAddr 25 t1 1
        refine StepL.act ?_
        intro f w1 hG hF K hK
        clear hF
        dsimp only at hK ⊢
        go_simp
        exact hK.out _ _ hG rfl (fun _ _ _ _ h => h)
      · -- 4: Op.load 22 t49
        refine StepL.act ?_
        intro f w1 hG hF K hK
        have d3 : (rhG w (w.heap.size + 1) (w.heap.size + 1 + 1) ⟨true, ks, vs, cs⟩ p p nk ks[p] (.agg #[.bool true, .slice (some ⟨b, off, none⟩) nk ca, .slice B nv cb, .slice C nc cc]) (.slice (some ⟨b, off, none⟩) nk ca) w.heap.size b off) 3 (f 49) (f 0) w1 := hF 3 (by kernel_rfl)
        clear hF
        dsimp only at hK ⊢
        generalize f 49 = v49 at *
        subst d3
        have y1 := hG.bk.cell 1
        go_simp
        exact hK.out _ _ hG rfl (fun _ _ _ _ h => h)
      · -- 5: Op.move t5
        refine StepL.act ?_
        intro f w1 hG hF K hK
        clear hF
        dsimp only at hK ⊢
        go_simp
        exact hK.out _ _ hG rfl (fun _ _ _ _ h => h)
      · -- 6: Op.indexAddr 22 t50 t51
        refine StepL.act ?_
        intro f w1 hG hF K hK
        have d4 : (rhG w (w.heap.size + 1) (w.heap.size + 1 + 1) ⟨true, ks, vs, cs⟩ p p nk ks[p] (.agg #[.bool true, .slice (some ⟨b, off, none⟩) nk ca, .slice B nv cb, .slice C nc cc]) (.slice (some ⟨b, off, none⟩) nk ca) w.heap.size b off) 4 (f 50) (f 0) w1 := hF 4 (by kernel_rfl)
        have d5 : (rhG w (w.heap.size + 1) (w.heap.size + 1 + 1) ⟨true, ks, vs, cs⟩ p p nk ks[p] (.agg #[.bool true, .slice (some ⟨b, off, none⟩) nk ca, .slice B nv cb, .slice C nc cc]) (.slice (some ⟨b, off, none⟩) nk ca) w.heap.size b off) 5 (f 51) (f 0) w1 := hF 5 (by kernel_rfl)
        clear hF
        dsimp only at hK ⊢
        generalize f 50 = v50 at *
        generalize f 51 = v51 at *
        subst d4 d5
        have i1 : (0 : Int) ≤ (p : Int) := by omega
        have i2 : (p : Int) < (nk : Int) := by omega
        go_simp
        exact hK.out _ _ hG rfl (fun _ _ _ _ h => h)
      · -- 7: Op.load 9 t52
        refine StepL.act ?_
        intro f w1 hG hF K hK
        have d6 : (rhG w (w.heap.size + 1) (w.heap.size + 1 + 1) ⟨true, ks, vs, cs⟩ p p nk ks[p] (.agg #[.bool true, .slice (some ⟨b, off, none⟩) nk ca, .slice B nv cb, .slice C nc cc]) (.slice (some ⟨b, off, none⟩) nk ca) w.heap.size b off) 6 (f 52) (f 0) w1 := hF 6 (by kernel_rfl)
        clear hF
        dsimp only at hK ⊢
        generalize f 52 = v52 at *
        subst d6
        obtain ⟨b', off', e', _, hc⟩ := (H.out.sk.bel hG.bel).str (k := p) hml
        injection e' with e'
        injection e' with e1 e2
        subst e1
        subst e2
        simp only at hc
        generalize ks[p] = key at *
        go_simp
        exact hK.out _ _ hG rfl (fun _ _ _ _ h => h)
      · -- 8: Op.load 25 t1
        refine StepL.act ?_
        intro f w1 hG hF K hK
        clear hF
        dsimp only at hK ⊢
        have y0 := hG.bk.cell 0
        have y1 := hG.bk.cell 1
        have y2 := hG.bk.cell 2
        have y3 := hG.bk.cell 3
        go_simp
        exact hK.out _ _ hG rfl (fun _ _ _ _ h => h)
      · -- 9: Op.move t5
        refine StepL.act ?_
        intro f w1 hG hF K hK
        clear hF
        dsimp only at hK ⊢
        go_simp
        exact hK.out _ _ hG rfl (fun _ _ _ _ h => h)
      · -- 10: Op.call ( value (Operand.func 41), args := #[t54, t55], argTypes := #[25, 3] )
        refine StepL.act ?_
        intro f w1 hG hF K hK
        have d8 : (rhG w (w.heap.size + 1) (w.heap.size + 1 + 1) ⟨true, ks, vs, cs⟩ p p nk ks[p] (.agg #[.bool true, .slice (some ⟨b, off, none⟩) nk ca, .slice B nv cb, .slice C nc cc]) (.slice (some ⟨b, off, none⟩) nk ca) w.heap.size b off) 8 (f 54) (f 0) w1 := hF 8 (by kernel_rfl)
        have d9 : (rhG w (w.heap.size + 1) (w.heap.size + 1 + 1) ⟨true, ks, vs, cs⟩ p p nk ks[p] (.agg #[.bool true, .slice (some ⟨b, off, none⟩) nk ca, .slice B nv cb, .slice C nc cc]) (.slice (some ⟨b, off, none⟩) nk ca) w.heap.size b off) 9 (f 55) (f 0) w1 := hF 9 (by kernel_rfl)
        clear hF
        dsimp only at hK ⊢
        generalize f 54 = v54 at *
        generalize f 55 = v55 at *
        subst d8 d9
        have CL := Lib.hid (rest_any true ks vs cs (some ⟨b, off, none⟩) B C nk ca nv cb nc cc p w1 (H.out.bel hG.bel) HF.out (show p + 0 < nk by omega) (p : Int) rfl)
        go_simp
        refine (CL.out).mono ?_
        rintro e w2' ⟨⟨v, rfl, hv⟩, hb⟩
        exact hK.out _ _ (hG.step hb) (hv.mono hG.bel.size) (fun j _ u u' h => rhG.bel hb j u u' h)
      · -- 11: Op.store 25 t2 t48
        refine StepL.act ?_
        intro f w1 hG hF K hK
        have d2 : (rhG w (w.heap.size + 1) (w.heap.size + 1 + 1) ⟨true, ks, vs, cs⟩ p p nk ks[p] (.agg #[.bool true, .slice (some ⟨b, off, none⟩) nk ca, .slice B nv cb, .slice C nc cc]) (.slice (some ⟨b, off, none⟩) nk ca) w.heap.size b off) 2 (f 48) (f 0) w1 := hF 2 (by kernel_rfl)
        clear hF
        dsimp only at hK ⊢
        generalize f 48 = v48 at *
        have d2 : NodeV w (partM ⟨true, ks, vs, cs⟩ 0 p) _ w1 := d2
        obtain ⟨A1, A2, A3, c1, c2, c3, hv⟩ := NodeV.shape d2
        subst hv
        have R := Lib.hid d2
        clear d2
        obtain ⟨ds, hds, hbk⟩ := hG.two
        obtain ⟨x0, x1, x2, x3, rfl⟩ := array4 hds
        have y0 : w1.cell? ⟨w.heap.size + 1, 0, none⟩ = some x0 := hbk.cell 0
        have f0 := hbk.frozen 0
        have y1 : w1.cell? ⟨w.heap.size + 1, 1, none⟩ = some x1 := hbk.cell 1
        have f1 := hbk.frozen 1
        have y2 : w1.cell? ⟨w.heap.size + 1, 2, none⟩ = some x2 := hbk.cell 2
        have f2 := hbk.frozen 2
        have y3 : w1.cell? ⟨w.heap.size + 1, 3, none⟩ = some x3 := hbk.cell 3
        have f3 := hbk.frozen 3
        generalize ((partM ⟨true, ks, vs, cs⟩ 0 p).keys.length) = l1 at *
        generalize ((partM ⟨true, ks, vs, cs⟩ 0 p).vals.length) = l2 at *
        generalize ((partM ⟨true, ks, vs, cs⟩ 0 p).kids.length) = l3 at *
        have HK := Lib.hid ((((Kept1.set w1 (w.heap.size + 1) 0 (.bool true)).trans (Kept1.set _ (w.heap.size + 1) 1 (.slice A1 l1 c1))).trans (Kept1.set _ (w.heap.size + 1) 2 (.slice A2 l2 c2))).trans (Kept1.set _ (w.heap.size + 1) 3 (.slice A3 l3 c3)))
        have HBK := Lib.hid ((((hbk.put 0 (.bool true)).put 1 (.slice A1 l1 c1)).put 2 (.slice A2 l2 c2)).put 3 (.slice A3 l3 c3))
        have hgw : w.heap.size ≤ w.heap.size + 1 := by omega
        have HBL := Lib.hid ((((hG.bel.setCell (p := ⟨w.heap.size + 1, 0, none⟩) hgw (.bool true)).setCell (p := ⟨w.heap.size + 1, 1, none⟩) hgw (.slice A1 l1 c1)).setCell (p := ⟨w.heap.size + 1, 2, none⟩) hgw (.slice A2 l2 c2)).setCell (p := ⟨w.heap.size + 1, 3, none⟩) hgw (.slice A3 l3 c3))
        have HG := Lib.hid hG
        have HB0 := Lib.hid hbk
        clear hG hbk
        go_simp
        exact hK.out undef _ ⟨bk_kept HG.out.bk (by omega) HK.out, HBL.out, ⟨_, rfl, HBK.out⟩, HG.out.four.imp fun ds h => ⟨h.1, bk_kept h.2 (by omega) HK.out⟩⟩ ⟨_, _, _, HBK.out, R.out.kept HB0.out HK.out⟩ (fun j hj u u' h => rhG.kept HB0.out HK.out j (by omega) (by omega) u u' h)
      · -- 12: Op.assign t53
        refine StepL.act ?_
        intro f w1 hG hF K hK
        have d7 : (rhG w (w.heap.size + 1) (w.heap.size + 1 + 1) ⟨true, ks, vs, cs⟩ p p nk ks[p] (.agg #[.bool true, .slice (some ⟨b, off, none⟩) nk ca, .slice B nv cb, .slice C nc cc]) (.slice (some ⟨b, off, none⟩) nk ca) w.heap.size b off) 7 (f 53) (f 0) w1 := hF 7 (by kernel_rfl)
        clear hF
        dsimp only at hK ⊢
        generalize f 53 = v53 at *
        subst d7
        go_simp
        exact hK.out _ _ hG rfl (fun _ _ _ _ h => h)
      · -- 13: Op.store 25 t4 t56
        refine StepL.act ?_
        intro f w1 hG hF K hK
        have d10 : (rhG w (w.heap.size + 1) (w.heap.size + 1 + 1) ⟨true, ks, vs, cs⟩ p p nk ks[p] (.agg #[.bool true, .slice (some ⟨b, off, none⟩) nk ca, .slice B nv cb, .slice C nc cc]) (.slice (some ⟨b, off, none⟩) nk ca) w.heap.size b off) 10 (f 56) (f 0) w1 := hF 10 (by kernel_rfl)
        clear hF
        dsimp only at hK ⊢
        generalize f 56 = v56 at *
        have d10 : NodeV w (partM ⟨true, ks, vs, cs⟩ p nk) _ w1 := d10
        obtain ⟨A1, A2, A3, c1, c2, c3, hv⟩ := NodeV.shape d10
        subst hv
        have R := Lib.hid d10
        clear d10
        obtain ⟨ds, hds, hbk⟩ := hG.four
        obtain ⟨x0, x1, x2, x3, rfl⟩ := array4 hds
        have y0 : w1.cell? ⟨w.heap.size + 1 + 1, 0, none⟩ = some x0 := hbk.cell 0
        have f0 := hbk.frozen 0
        have y1 : w1.cell? ⟨w.heap.size + 1 + 1, 1, none⟩ = some x1 := hbk.cell 1
        have f1 := hbk.frozen 1
        have y2 : w1.cell? ⟨w.heap.size + 1 + 1, 2, none⟩ = some x2 := hbk.cell 2
        have f2 := hbk.frozen 2
        have y3 : w1.cell? ⟨w.heap.size + 1 + 1, 3, none⟩ = some x3 := hbk.cell 3
        have f3 := hbk.frozen 3
        generalize ((partM ⟨true, ks, vs, cs⟩ p nk).keys.length) = l1 at *
        generalize ((partM ⟨true, ks, vs, cs⟩ p nk).vals.length) = l2 at *
        generalize ((partM ⟨true, ks, vs, cs⟩ p nk).kids.length) = l3 at *
        have HK := Lib.hid ((((Kept1.set w1 (w.heap.size + 1 + 1) 0 (.bool true)).trans (Kept1.set _ (w.heap.size + 1 + 1) 1 (.slice A1 l1 c1))).trans (Kept1.set _ (w.heap.size + 1 + 1) 2 (.slice A2 l2 c2))).trans (Kept1.set _ (w.heap.size + 1 + 1) 3 (.slice A3 l3 c3)))
        have HBK := Lib.hid ((((hbk.put 0 (.bool true)).put 1 (.slice A1 l1 c1)).put 2 (.slice A2 l2 c2)).put 3 (.slice A3 l3 c3))
        have hgw : w.heap.size ≤ w.heap.size + 1 + 1 := by omega
        have HBL := Lib.hid ((((hG.bel.setCell (p := ⟨w.heap.size + 1 + 1, 0, none⟩) hgw (.bool true)).setCell (p := ⟨w.heap.size + 1 + 1, 1, none⟩) hgw (.slice A1 l1 c1)).setCell (p := ⟨w.heap.size + 1 + 1, 2, none⟩) hgw (.slice A2 l2 c2)).setCell (p := ⟨w.heap.size + 1 + 1, 3, none⟩) hgw (.slice A3 l3 c3))
        have HG := Lib.hid hG
        have HB0 := Lib.hid hbk
        clear hG hbk
        go_simp
        exact hK.out undef _ ⟨bk_kept HG.out.bk (by omega) HK.out, HBL.out, HG.out.two.imp fun ds h => ⟨h.1, bk_kept h.2 (by omega) HK.out⟩, ⟨_, rfl, HBK.out⟩⟩ ⟨_, _, _, HBK.out, R.out.kept HB0.out HK.out⟩ (fun j hj u u' h => rhG.kept HB0.out HK.out j (by omega) (by omega) u u' h)
      · intro f w3 hG hF
        have e3 : f 3 = .string ks[p] := hF 12 (by decide)
        obtain ⟨a1, a2, a3, k1, R1⟩ : ∃ a1 a2 a3, Bk w3 (w.heap.size + 1) 25 #[.bool true, a1, a2, a3] ∧ NodeV w (partM ⟨true, ks, vs, cs⟩ 0 p) (.agg #[.bool true, a1, a2, a3]) w3 := hF 11 (by decide)
        obtain ⟨b1, b2, b3, k2, R2⟩ : ∃ a1 a2 a3, Bk w3 (w.heap.size + 1 + 1) 25 #[.bool true, a1, a2, a3] ∧ NodeV w (partM ⟨true, ks, vs, cs⟩ p nk) (.agg #[.bool true, a1, a2, a3]) w3 := hF 13 (by decide)
        have HG := Lib.hid hG.bel
        clear hF hG H3
        dsimp only
        generalize f 46 = v46 at *
        generalize f 47 = v47 at *
        generalize f 48 = v48 at *
        generalize f 49 = v49 at *
        generalize f 50 = v50 at *
        generalize f 51 = v51 at *
        generalize f 52 = v52 at *
        generalize f 53 = v53 at *
        generalize f 54 = v54 at *
        generalize f 55 = v55 at *
        generalize f 56 = v56 at *
        generalize f 3 = v3 at *
        subst e3
        have x0 := k1.cell 0
        have x1 := k1.cell 1
        have x2 := k1.cell 2
        have x3 := k1.cell 3
        have z0 := k2.cell 0
        have z1 := k2.cell 1
        have z2 := k2.cell 2
        have z3 := k2.cell 3
        have HR1 := Lib.hid R1
        have HR2 := Lib.hid R2
        generalize ks[p] = key at *
        clear R1 R2 k1 k2
        go_wp2_with fail
        exact bodyPost_ret (v := .tuple #[.agg #[.bool true, a1, a2, a3], .string key, .agg #[.bool true, b1, b2, b3]]) (by simp [results, Try.results26, go_sem, x0, x1, x2, x3, z0, z1, z2, z3]) rfl ⟨⟨_, _, by rw [HM.out, HKY.out], by rw [HM.out]; exact HR1.out, by rw [HM.out]; exact HR2.out⟩, HG.out⟩
set_option maxRecDepth 100000 in
set_option maxHeartbeats 4000000 in
theorem rhalve_branch (ks vs : List ByteArray) (cs : List Int) (b off : Nat) (B C : Option Addr) (nk ca nv cb nc cc : Nat) (w : World) (h : Nd w ⟨false, ks, vs, cs⟩ (some ⟨b, off, none⟩) B C nk ca nv cb nc cc) (hf : formB ⟨false, ks, vs, cs⟩ = true) (hn : 2 + betN false ≤ nk) :
    Calls Try.prog 26 #[.agg #[.bool false, .slice (some ⟨b, off, none⟩) nk ca, .slice B nv cb, .slice C nc cc]] w fun e w' => (∃ v1 v2, e = .returned (.tuple #[v1, .string (ks.getD (midN ⟨false, ks, vs, cs⟩) ByteArray.empty), v2]) ∧ NodeV w (partM ⟨false, ks, vs, cs⟩ 0 (midN ⟨false, ks, vs, cs⟩)) v1 w' ∧ NodeV w (partM ⟨false, ks, vs, cs⟩ (midN ⟨false, ks, vs, cs⟩ + betN false) nk) v2 w') ∧ Below w.heap.size w w' := by
  have hn' : 2 + 1 ≤ nk := hn
  have H := Lib.hid h
  have HF := Lib.hid hf
  have bk := h.bk
  have EK := Lib.hid (show nk = ks.length from h.ek)
  have HGC := Lib.hid (show ∀ k, k + 1 ≤ ks.length → max (sizeN (partM ⟨false, ks, vs, cs⟩ 0 k)) (sizeN (partM ⟨false, ks, vs, cs⟩ (k + 1) ks.length)) = greatN ⟨false, ks, vs, cs⟩ k from fun k hk => great_cut (fun e => by first | exact (form_leaf_eq hf).1 | cases e) k hk)
  have SZ := Lib.hid (show sizeN ⟨false, ks, vs, cs⟩ ≤ 4 + nk * 123 by
    have := form_sum_le hf nk
    have e : nk = ks.length := h.ek
    unfold sizeN
    show headN false + sumN ⟨false, ks, vs, cs⟩ ks.length ≤ _
    rw [← e]
    unfold headN; split <;> omega)
  have EL := Lib.hid (show limN ⟨false, ks, vs, cs⟩ = nk - 1 - 1 by unfold limN; rw [show nk = ks.length from h.ek]; rfl)
  obtain ⟨w1, hw1⟩ : ∃ w1, w1 = ((w.alloc (.cells #[.bool false, .slice (some ⟨b, off, none⟩) nk ca, .slice B nv cb, .slice C nc cc] 25)).alloc (.cells #[.bool false, .slice none 0 0, .slice none 0 0, .slice none 0 0] 25)).alloc (.cells #[.bool false, .slice none 0 0, .slice none 0 0, .slice none 0 0] 25) := ⟨_, rfl⟩
  have H0 := Lib.hid (show HvW w w.heap.size (w.heap.size + 1) (w.heap.size + 1 + 1) #[.bool false, .slice (some ⟨b, off, none⟩) nk ca, .slice B nv cb, .slice C nc cc] w1 by
    rw [hw1]
    have k1 := Bk.new (w.alloc (.cells #[.bool false, .slice (some ⟨b, off, none⟩) nk ca, .slice B nv cb, .slice C nc cc] 25)) 25 #[.bool false, .slice none 0 0, .slice none 0 0, .slice none 0 0]
    have k2 := Bk.new ((w.alloc (.cells #[.bool false, .slice (some ⟨b, off, none⟩) nk ca, .slice B nv cb, .slice C nc cc] 25)).alloc (.cells #[.bool false, .slice none 0 0, .slice none 0 0, .slice none 0 0] 25)) 25 #[.bool false, .slice none 0 0, .slice none 0 0, .slice none 0 0]
    rw [World.size_alloc] at k1
    rw [World.size_alloc, World.size_alloc] at k2
    exact ⟨((Bk.new w _ _).alloc _).alloc _, (((Below.refl _ _).alloc (Nat.le_refl _) _).alloc (by simp) _).alloc (by simp; omega) _, ⟨_, rfl, k1.alloc _⟩, ⟨_, rfl, k2⟩⟩)
  have HW := Lib.hid hw1
  clear h hf hw1 hn
  go_enter Try.func26, Try.ntmps26
  go_wp2_with fail
  rw [← HW.out]
  go_loopw [5, 6, 7] (fun s5 s6 s7 wr => ∃ j p q : Nat, j ≤ limN ⟨false, ks, vs, cs⟩ ∧ s7 = .int .i64 ((j : Int) + 1) ∧ s5 = .int .i64 (p : Int) ∧ s6 = .int .i64 (q : Int) ∧ Hid (bestTo ⟨false, ks, vs, cs⟩ j = (p, q)) ∧ HvW w w.heap.size (w.heap.size + 1) (w.heap.size + 1 + 1) #[.bool false, .slice (some ⟨b, off, none⟩) nk ca, .slice B nv cb, .slice C nc cc] wr) (fun _ _ s7 _ => nk - (intOf s7).toNat)
  case atStart => exact ⟨0, 0, 0, Nat.zero_le _, rfl, rfl, rfl, Lib.hid rfl, H0.out⟩
  case round =>
    obtain ⟨j, p, q, hj, rfl, rfl, rfl, HB, hG⟩ := hrel
    have H3 := Lib.hid hG
    have y0 := hG.bk.cell 0
    have y1 := hG.bk.cell 1
    have y2 := hG.bk.cell 2
    have y3 := hG.bk.cell 3
    have hjn : j + 1 ≤ nk := by have := EL.out; omega
    have p1 : p ≤ nk := by
      have := bestTo_le ⟨false, ks, vs, cs⟩ j
      rw [HB.out] at this
      simp only at this
      omega
    have q1 : q ≤ 4 + nk * 123 := by
      have := bestTo_size ⟨false, ks, vs, cs⟩ j (show j ≤ ks.length by have := EK.out; omega)
      rw [HB.out] at this
      have h2 := SZ.out
      simp only at this
      omega
    clear hG
    have t1 : IntKind.i64.wrap ((nk : Int) - 1) = (nk : Int) - 1 := by rw [IntKind.wrap_i64]; omega
    by_cases hlt : j < limN ⟨false, ks, vs, cs⟩
    · have hk1 : j + 1 + 1 < nk := by have := EL.out; omega
      have l1 : decide ((j : Int) + 1 < (nk : Int)) = true := by simp; omega
      have l2 : decide ((j : Int) + 1 < (nk : Int) - 1) = true := by simp; omega
      go_wp2_with fail
      obtain ⟨S1, hS1⟩ : ∃ s, s = sizeN (partM ⟨false, ks, vs, cs⟩ 0 (j + 1)) := ⟨_, rfl⟩
      obtain ⟨S2, hS2⟩ : ∃ s, s = sizeN (partM ⟨false, ks, vs, cs⟩ (j + 1 + betN false) nk) := ⟨_, rfl⟩
      have hGR : max S1 S2 = greatN ⟨false, ks, vs, cs⟩ (j + 1) := by
        rw [hS1, hS2, EK.out]
        exact HGC.out (j + 1) (show j + 1 + 1 ≤ ks.length by have := EK.out; omega)
      have hGS : greatN ⟨false, ks, vs, cs⟩ (j + 1) ≤ 4 + nk * 123 := Nat.le_trans (great_le (j + 1) (show j + 1 ≤ ks.length by have := EK.out; omega)) SZ.out
      have w1b : IntKind.i64.wrap (S1 : Int) = (S1 : Int) := by rw [IntKind.wrap_i64]; omega
      have w2b : IntKind.i64.wrap (S2 : Int) = (S2 : Int) := by rw [IntKind.wrap_i64]; omega
      have W1 := Lib.hid w1b
      have W2 := Lib.hid w2b
      have HS1 := Lib.hid hS1
      have HS2 := Lib.hid hS2
      have HGR := Lib.hid hGR
      clear hS1 hS2 hGR w1b w2b y0 y1 y2 y3 l1 t1
      refine wp_region_list [some 28, some 29, some 30, some 31, some 32, some 33, some 34, some 35, some 36, some 8] (fun _ => 0) (rhF w ⟨false, ks, vs, cs⟩ (j + 1) (j + 1 + betN false) nk (.agg #[.bool false, .slice (some ⟨b, off, none⟩) nk ca, .slice B nv cb, .slice C nc cc]) S1 S2 (greatN ⟨false, ks, vs, cs⟩ (j + 1))) (HvW w w.heap.size (w.heap.size + 1) (w.heap.size + 1 + 1) #[.bool false, .slice (some ⟨b, off, none⟩) nk ca, .slice B nv cb, .slice C nc cc]) (by kernel_rfl) (H3.out.step (Below.refl _ _).drew) rfl (by kernel_rfl) (by kernel_rfl) (by kernel_rfl) (by kernel_rfl) (fun T hT => ?_)
      simp only [List.filterMap_cons, List.filterMap_nil, id, putsS, Act.put, List.setIfInBounds_toArray, List.set_cons_zero, List.set_cons_succ] at hT
      subst hT
      refine ⟨⟨?_, ?_, ?_, ?_, ?_, ?_, ?_, ?_, ?_, ?_, trivial⟩, ?_⟩
      · -- 0: Op.load 25 t1
        refine StepL.act ?_
        intro f w1 hG hF K hK
        clear hF
        dsimp only at hK ⊢
        have y0 := hG.bk.cell 0
        have y1 := hG.bk.cell 1
        have y2 := hG.bk.cell 2
        have y3 := hG.bk.cell 3
        go_simp
        exact hK.out _ _ hG rfl (fun _ _ _ _ h => h)
      · -- 1: Op.move t7
        refine StepL.act ?_
        intro f w1 hG hF K hK
        clear hF
        dsimp only at hK ⊢
        go_simp
        exact hK.out _ _ hG (show Value.int .i64 ((j : Int) + 1) = Value.int .i64 ((j + 1 : Nat) : Int) by go_num) (fun _ _ _ _ h => h)
      · -- 2: Op.call ( value (Operand.func 40), args := #[t28, const (0:i64), t29], argTypes 
        refine StepL.act ?_
        intro f w1 hG hF K hK
        have d0 : (rhF w ⟨false, ks, vs, cs⟩ (j + 1) (j + 1 + betN false) nk (.agg #[.bool false, .slice (some ⟨b, off, none⟩) nk ca, .slice B nv cb, .slice C nc cc]) S1 S2 (greatN ⟨false, ks, vs, cs⟩ (j + 1))) 0 (f 28) (f 0) w1 := hF 0 (by kernel_rfl)
        have d1 : (rhF w ⟨false, ks, vs, cs⟩ (j + 1) (j + 1 + betN false) nk (.agg #[.bool false, .slice (some ⟨b, off, none⟩) nk ca, .slice B nv cb, .slice C nc cc]) S1 S2 (greatN ⟨false, ks, vs, cs⟩ (j + 1))) 1 (f 29) (f 0) w1 := hF 1 (by kernel_rfl)
        clear hF
        dsimp only at hK ⊢
        generalize f 28 = v28 at *
        generalize f 29 = v29 at *
        subst d0 d1
        have CL := Lib.hid (rpart_any ⟨false, ks, vs, cs⟩ (some ⟨b, off, none⟩) B C nk ca nv cb nc cc 0 (j + 1) w1 (H.out.bel hG.bel) HF.out (by omega) (by omega) (by omega) 0 ((j + 1 : Nat) : Int) rfl rfl)
        go_simp
        refine (CL.out).mono ?_
        rintro e w2' ⟨⟨v, rfl, hv⟩, hb⟩
        exact hK.out _ _ (hG.step hb) (hv.mono hG.bel.size) (fun j _ u u' h => rhF.bel hb j u u' h)
      · -- 3: Op.call ( value (Operand.func 13), args := #[t30], argTypes := #[25] )
        refine StepL.act ?_
        intro f w1 hG hF K hK
        have d2 : (rhF w ⟨false, ks, vs, cs⟩ (j + 1) (j + 1 + betN false) nk (.agg #[.bool false, .slice (some ⟨b, off, none⟩) nk ca, .slice B nv cb, .slice C nc cc]) S1 S2 (greatN ⟨false, ks, vs, cs⟩ (j + 1))) 2 (f 30) (f 0) w1 := hF 2 (by kernel_rfl)
        clear hF
        dsimp only at hK ⊢
        generalize f 30 = v30 at *
        have q := part_bounds (H.out) 0 (j + 1)
        obtain ⟨A', B', C', c1, c2, c3, hv, N⟩ := NodeV.nd (show NodeV w (partM ⟨false, ks, vs, cs⟩ 0 (j + 1)) _ w1 from d2) q.1 q.2.1 q.2.2.1 q.2.2.2.1 q.2.2.2.2
        subst hv
        have CL := Lib.hid (rsize_any _ A' B' C' _ c1 _ c2 _ c3 w1 N)
        rw [← HS1.out, W1.out] at CL
        go_simp
        refine CL.out.mono ?_
        rintro e w2' ⟨rfl, hb⟩
        exact hK.out _ _ (hG.step hb) rfl (fun j _ u u' h => rhF.bel hb j u u' h)
      · -- 4: Op.load 25 t1
        refine StepL.act ?_
        intro f w1 hG hF K hK
        clear hF
        dsimp only at hK ⊢
        have y0 := hG.bk.cell 0
        have y1 := hG.bk.cell 1
        have y2 := hG.bk.cell 2
        have y3 := hG.bk.cell 3
        go_simp
        exact hK.out _ _ hG rfl (fun _ _ _ _ h => h)
      · -- 5: Op.move t7
        refine StepL.act ?_
        intro f w1 hG hF K hK
        clear hF
        dsimp only at hK ⊢
        go_simp
        exact hK.out _ _ hG (show Value.int .i64 ((j : Int) + 1) = Value.int .i64 ((j + 1 : Nat) : Int) by go_num) (fun _ _ _ _ h => h)
      · -- 6: Op.call ( value (Operand.func 41), args := #[t32, t33], argTypes := #[25, 3] )
        refine StepL.act ?_
        intro f w1 hG hF K hK
        have d4 : (rhF w ⟨false, ks, vs, cs⟩ (j + 1) (j + 1 + betN false) nk (.agg #[.bool false, .slice (some ⟨b, off, none⟩) nk ca, .slice B nv cb, .slice C nc cc]) S1 S2 (greatN ⟨false, ks, vs, cs⟩ (j + 1))) 4 (f 32) (f 0) w1 := hF 4 (by kernel_rfl)
        have d5 : (rhF w ⟨false, ks, vs, cs⟩ (j + 1) (j + 1 + betN false) nk (.agg #[.bool false, .slice (some ⟨b, off, none⟩) nk ca, .slice B nv cb, .slice C nc cc]) S1 S2 (greatN ⟨false, ks, vs, cs⟩ (j + 1))) 5 (f 33) (f 0) w1 := hF 5 (by kernel_rfl)
        clear hF
        dsimp only at hK ⊢
        generalize f 32 = v32 at *
        generalize f 33 = v33 at *
        subst d4 d5
        have CL := Lib.hid (rest_any false ks vs cs (some ⟨b, off, none⟩) B C nk ca nv cb nc cc (j + 1) w1 (H.out.bel hG.bel) HF.out (show j + 1 + 1 < nk by omega) ((j + 1 : Nat) : Int) rfl)
        go_simp
        refine (CL.out).mono ?_
        rintro e w2' ⟨⟨v, rfl, hv⟩, hb⟩
        exact hK.out _ _ (hG.step hb) (hv.mono hG.bel.size) (fun j _ u u' h => rhF.bel hb j u u' h)
      · -- 7: Op.call ( value (Operand.func 13), args := #[t34], argTypes := #[25] )
        refine StepL.act ?_
        intro f w1 hG hF K hK
        have d6 : (rhF w ⟨false, ks, vs, cs⟩ (j + 1) (j + 1 + betN false) nk (.agg #[.bool false, .slice (some ⟨b, off, none⟩) nk ca, .slice B nv cb, .slice C nc cc]) S1 S2 (greatN ⟨false, ks, vs, cs⟩ (j + 1))) 6 (f 34) (f 0) w1 := hF 6 (by kernel_rfl)
        clear hF
        dsimp only at hK ⊢
        generalize f 34 = v34 at *
        have q := part_bounds (H.out) (j + 1 + betN false) nk
        obtain ⟨A', B', C', c1, c2, c3, hv, N⟩ := NodeV.nd (show NodeV w (partM ⟨false, ks, vs, cs⟩ (j + 1 + betN false) nk) _ w1 from d6) q.1 q.2.1 q.2.2.1 q.2.2.2.1 q.2.2.2.2
        subst hv
        have CL := Lib.hid (rsize_any _ A' B' C' _ c1 _ c2 _ c3 w1 N)
        rw [← HS2.out, W2.out] at CL
        go_simp
        refine CL.out.mono ?_
        rintro e w2' ⟨rfl, hb⟩
        exact hK.out _ _ (hG.step hb) rfl (fun j _ u u' h => rhF.bel hb j u u' h)
      · -- 8: Op.call ( builtin max, args := #[t31, t35], argTypes := #[3, 3] )
        refine StepL.act ?_
        intro f w1 hG hF K hK
        have d3 : (rhF w ⟨false, ks, vs, cs⟩ (j + 1) (j + 1 + betN false) nk (.agg #[.bool false, .slice (some ⟨b, off, none⟩) nk ca, .slice B nv cb, .slice C nc cc]) S1 S2 (greatN ⟨false, ks, vs, cs⟩ (j + 1))) 3 (f 31) (f 0) w1 := hF 3 (by kernel_rfl)
        have d7 : (rhF w ⟨false, ks, vs, cs⟩ (j + 1) (j + 1 + betN false) nk (.agg #[.bool false, .slice (some ⟨b, off, none⟩) nk ca, .slice B nv cb, .slice C nc cc]) S1 S2 (greatN ⟨false, ks, vs, cs⟩ (j + 1))) 7 (f 35) (f 0) w1 := hF 7 (by kernel_rfl)
        clear hF
        dsimp only at hK ⊢
        generalize f 31 = v31 at *
        generalize f 35 = v35 at *
        subst d3 d7
        go_simp
        exact hK.out _ _ hG (show Value.int .i64 (if S1 < S2 then (S2 : Int) else (S1 : Int)) = Value.int .i64 ((greatN ⟨false, ks, vs, cs⟩ (j + 1) : Nat) : Int) by rw [max_nat, HGR.out]) (fun _ _ _ _ h => h)
      · -- 9: Op.assign t36
        refine StepL.act ?_
        intro f w1 hG hF K hK
        have d8 : (rhF w ⟨false, ks, vs, cs⟩ (j + 1) (j + 1 + betN false) nk (.agg #[.bool false, .slice (some ⟨b, off, none⟩) nk ca, .slice B nv cb, .slice C nc cc]) S1 S2 (greatN ⟨false, ks, vs, cs⟩ (j + 1))) 8 (f 36) (f 0) w1 := hF 8 (by kernel_rfl)
        clear hF
        dsimp only at hK ⊢
        generalize f 36 = v36 at *
        subst d8
        go_simp
        exact hK.out _ _ hG rfl (fun _ _ _ _ h => h)
      · intro f w3 hG hF
        have e8 : f 8 = .int .i64 ((greatN ⟨false, ks, vs, cs⟩ (j + 1) : Nat) : Int) := hF 9 (by decide)
        have H4 := Lib.hid hG
        clear hF hG H3
        dsimp only
        generalize f 28 = v28 at *
        generalize f 29 = v29 at *
        generalize f 30 = v30 at *
        generalize f 31 = v31 at *
        generalize f 32 = v32 at *
        generalize f 33 = v33 at *
        generalize f 34 = v34 at *
        generalize f 35 = v35 at *
        generalize f 36 = v36 at *
        generalize f 8 = v8 at *
        subst e8
        by_cases hp : p = 0
        · have hp1 : ((p : Int) == 0) = true := by simp [hp]
          have HN := Lib.hid (best_new (n := ⟨false, ks, vs, cs⟩) (j := j) (Or.inl (by rw [HB.out]; exact hp)))
          clear hp
          go_wp2_with fail
          go_roundw
          case rel => exact ⟨j + 1, j + 1, greatN ⟨false, ks, vs, cs⟩ (j + 1), by omega, by go_num, by go_num, rfl, HN, H4.out⟩
          case measure => simp [intOf]; omega
        · have hp1 : ((p : Int) == 0) = false := by simp [hp]
          by_cases hq : greatN ⟨false, ks, vs, cs⟩ (j + 1) < q
          · have hq1 : decide (greatN ⟨false, ks, vs, cs⟩ (j + 1) < q) = true := by simp; exact hq
            have hq2 : decide ((greatN ⟨false, ks, vs, cs⟩ (j + 1) : Int) < (q : Int)) = true := by simp; exact hq
            have HN := Lib.hid (best_new (n := ⟨false, ks, vs, cs⟩) (j := j) (Or.inr (by rw [HB.out]; exact hq)))
            clear hp hq
            go_wp2_with fail
            go_roundw
            case rel => exact ⟨j + 1, j + 1, greatN ⟨false, ks, vs, cs⟩ (j + 1), by omega, by go_num, by go_num, rfl, HN, H4.out⟩
            case measure => simp [intOf]; omega
          · have hq1 : decide (greatN ⟨false, ks, vs, cs⟩ (j + 1) < q) = false := by simp; omega
            have hq2 : decide ((greatN ⟨false, ks, vs, cs⟩ (j + 1) : Int) < (q : Int)) = false := by simp; omega
            have HN := Lib.hid ((best_old (n := ⟨false, ks, vs, cs⟩) (j := j) (by rw [HB.out]; exact hp) (by rw [HB.out]; exact hq)).trans HB.out)
            clear hp hq
            go_wp2_with fail
            go_roundw
            case rel => exact ⟨j + 1, p, q, by omega, by go_num, rfl, rfl, HN, H4.out⟩
            case measure => simp [intOf]; omega
    · have HJ := Lib.hid (show j = limN ⟨false, ks, vs, cs⟩ by omega)
      have l1 : decide ((j : Int) + 1 < (nk : Int)) = true := by have := EL.out; simp; omega
      have l2 : decide ((j : Int) + 1 < (nk : Int) - 1) = false := by have := EL.out; simp; omega
      have hm1 : 1 ≤ p := by
        have := bestTo_pos ⟨false, ks, vs, cs⟩ j (by have := HJ.out; have := EL.out; omega)
        rw [HB.out] at this
        exact this
      have hm2 : p + 1 < nk := by
        have := bestTo_le ⟨false, ks, vs, cs⟩ j
        rw [HB.out] at this
        simp only at this
        have := HJ.out
        have := EL.out
        omega
      have hml : p < ks.length := by have := EK.out; omega
      have HKY := Lib.hid (getD_at hml)
      have HM := Lib.hid (show midN ⟨false, ks, vs, cs⟩ = p by unfold midN; rw [← HJ.out, HB.out])
      have HNK := Lib.hid hn'
      have ka := H.out.ka
      clear hlt hj
      go_wp2_with fail
      refine wp_region_list [some 46, some 47, some 48, some 49, some 50, some 51, some 52, some 53, some 54, some 55, some 56, none, some 3, none] (fun _ => 0) (rhG w (w.heap.size + 1) (w.heap.size + 1 + 1) ⟨false, ks, vs, cs⟩ p (p + 1) nk ks[p] (.agg #[.bool false, .slice (some ⟨b, off, none⟩) nk ca, .slice B nv cb, .slice C nc cc]) (.slice (some ⟨b, off, none⟩) nk ca) w.heap.size b off) (HvW w w.heap.size (w.heap.size + 1) (w.heap.size + 1 + 1) #[.bool false, .slice (some ⟨b, off, none⟩) nk ca, .slice B nv cb, .slice C nc cc]) (by kernel_rfl) (H3.out.step (Below.refl _ _).drew) rfl (by kernel_rfl) (by kernel_rfl) (by kernel_rfl) (by kernel_rfl) (fun T hT => ?_)
      simp only [List.filterMap_cons, List.filterMap_nil, id, putsS, Act.put, List.setIfInBounds_toArray, List.set_cons_zero, List.set_cons_succ] at hT
      subst hT
      refine ⟨⟨?_, ?_, ?_, ?_, ?_, ?_, ?_, ?_, ?_, ?_, ?_, ?_, ?_, ?_, trivial⟩, ?_⟩
      · -- 0: Op.load 25 t1
        refine StepL.act ?_
        intro f w1 hG hF K hK
        clear hF
        dsimp only at hK ⊢
        have y0 := hG.bk.cell 0
        have y1 := hG.bk.cell 1
        have y2 := hG.bk.cell 2
        have y3 := hG.bk.cell 3
        go_simp
        exact hK.out _ _ hG rfl (fun _ _ _ _ h => h)
      · -- 1: Op.move t5
        refine StepL.act ?_
        intro f w1 hG hF K hK
        clear hF
        dsimp only at hK ⊢
        go_simp
        exact hK.out _ _ hG rfl (fun _ _ _ _ h => h)
      · -- 2: Op.call ( value (Operand.func 40), args := #[t46, const (0:i64), t47], argTypes 
        refine StepL.act ?_
        intro f w1 hG hF K hK
        have d0 : (rhG w (w.heap.size + 1) (w.heap.size + 1 + 1) ⟨false, ks, vs, cs⟩ p (p + 1) nk ks[p] (.agg #[.bool false, .slice (some ⟨b, off, none⟩) nk ca, .slice B nv cb, .slice C nc cc]) (.slice (some ⟨b, off, none⟩) nk ca) w.heap.size b off) 0 (f 46) (f 0) w1 := hF 0 (by kernel_rfl)
        have d1 : (rhG w (w.heap.size + 1) (w.heap.size + 1 + 1) ⟨false, ks, vs, cs⟩ p (p + 1) nk ks[p] (.agg #[.bool false, .slice (some ⟨b, off, none⟩) nk ca, .slice B nv cb, .slice C nc cc]) (.slice (some ⟨b, off, none⟩) nk ca) w.heap.size b off) 1 (f 47) (f 0) w1 := hF 1 (by kernel_rfl)
        clear hF
        dsimp only at hK ⊢
        generalize f 46 = v46 at *
        generalize f 47 = v47 at *
        subst d0 d1
        have CL := Lib.hid (rpart_any ⟨false, ks, vs, cs⟩ (some ⟨b, off, none⟩) B C nk ca nv cb nc cc 0 p w1 (H.out.bel hG.bel) HF.out (by omega) (by omega) (by omega) 0 (p : Int) rfl rfl)
        go_simp
        refine CL.out.mono ?_
        rintro e w2' ⟨⟨v, rfl, hv⟩, hb⟩
        exact hK.out _ _ (hG.step hb) (hv.mono hG.bel.size) (fun j _ u u' h => rhG.bel hb j u u' h)
      · -- 3: Op.fieldAddr 25 t1 1
        refine StepL.act ?_
        intro f w1 hG hF K hK
        clear hF
        dsimp only at hK ⊢
        go_simp
        exact hK.out _ _ hG rfl (fun _ _ _ _ h => h)
      · -- 4: Op.load 22 t49
        refine StepL.act ?_
        intro f w1 hG hF K hK
        have d3 : (rhG w (w.heap.size + 1) (w.heap.size + 1 + 1) ⟨false, ks, vs, cs⟩ p (p + 1) nk ks[p] (.agg #[.bool false, .slice (some ⟨b, off, none⟩) nk ca, .slice B nv cb, .slice C nc cc]) (.slice (some ⟨b, off, none⟩) nk ca) w.heap.size b off) 3 (f 49) (f 0) w1 := hF 3 (by kernel_rfl)
        clear hF
        dsimp only at hK ⊢
        generalize f 49 = v49 at *
        subst d3
        have y1 := hG.bk.cell 1
        go_simp
        exact hK.out _ _ hG rfl (fun _ _ _ _ h => h)
      · -- 5: Op.move t5
        refine StepL.act ?_
        intro f w1 hG hF K hK
        clear hF
        dsimp only at hK ⊢
        go_simp
        exact hK.out _ _ hG rfl (fun _ _ _ _ h => h)
      · -- 6: Op.indexAddr 22 t50 t51
        refine StepL.act ?_
        intro f w1 hG hF K hK
        have d4 : (rhG w (w.heap.size + 1) (w.heap.size + 1 + 1) ⟨false, ks, vs, cs⟩ p (p + 1) nk ks[p] (.agg #[.bool false, .slice (some ⟨b, off, none⟩) nk ca, .slice B nv cb, .slice C nc cc]) (.slice (some ⟨b, off, none⟩) nk ca) w.heap.size b off) 4 (f 50) (f 0) w1 := hF 4 (by kernel_rfl)
        have d5 : (rhG w (w.heap.size + 1) (w.heap.size + 1 + 1) ⟨false, ks, vs, cs⟩ p (p + 1) nk ks[p] (.agg #[.bool false, .slice (some ⟨b, off, none⟩) nk ca, .slice B nv cb, .slice C nc cc]) (.slice (some ⟨b, off, none⟩) nk ca) w.heap.size b off) 5 (f 51) (f 0) w1 := hF 5 (by kernel_rfl)
        clear hF
        dsimp only at hK ⊢
        generalize f 50 = v50 at *
        generalize f 51 = v51 at *
        subst d4 d5
        have i1 : (0 : Int) ≤ (p : Int) := by omega
        have i2 : (p : Int) < (nk : Int) := by omega
        go_simp
        exact hK.out _ _ hG rfl (fun _ _ _ _ h => h)
      · -- 7: Op.load 9 t52
        refine StepL.act ?_
        intro f w1 hG hF K hK
        have d6 : (rhG w (w.heap.size + 1) (w.heap.size + 1 + 1) ⟨false, ks, vs, cs⟩ p (p + 1) nk ks[p] (.agg #[.bool false, .slice (some ⟨b, off, none⟩) nk ca, .slice B nv cb, .slice C nc cc]) (.slice (some ⟨b, off, none⟩) nk ca) w.heap.size b off) 6 (f 52) (f 0) w1 := hF 6 (by kernel_rfl)
        clear hF
        dsimp only at hK ⊢
        generalize f 52 = v52 at *
        subst d6
        obtain ⟨b', off', e', _, hc⟩ := (H.out.sk.bel hG.bel).str (k := p) hml
        injection e' with e'
        injection e' with e1 e2
        subst e1
        subst e2
        simp only at hc
        generalize ks[p] = key at *
        go_simp
        exact hK.out _ _ hG rfl (fun _ _ _ _ h => h)
      · -- 8: Op.load 25 t1
        refine StepL.act ?_
        intro f w1 hG hF K hK
        clear hF
        dsimp only at hK ⊢
        have y0 := hG.bk.cell 0
        have y1 := hG.bk.cell 1
        have y2 := hG.bk.cell 2
        have y3 := hG.bk.cell 3
        go_simp
        exact hK.out _ _ hG rfl (fun _ _ _ _ h => h)
      · -- 9: Op.move t5
        refine StepL.act ?_
        intro f w1 hG hF K hK
        clear hF
        dsimp only at hK ⊢
        go_simp
        exact hK.out _ _ hG rfl (fun _ _ _ _ h => h)
      · -- 10: Op.call ( value (Operand.func 41), args := #[t54, t55], argTypes := #[25, 3] )
        refine StepL.act ?_
        intro f w1 hG hF K hK
        have d8 : (rhG w (w.heap.size + 1) (w.heap.size + 1 + 1) ⟨false, ks, vs, cs⟩ p (p + 1) nk ks[p] (.agg #[.bool false, .slice (some ⟨b, off, none⟩) nk ca, .slice B nv cb, .slice C nc cc]) (.slice (some ⟨b, off, none⟩) nk ca) w.heap.size b off) 8 (f 54) (f 0) w1 := hF 8 (by kernel_rfl)
        have d9 : (rhG w (w.heap.size + 1) (w.heap.size + 1 + 1) ⟨false, ks, vs, cs⟩ p (p + 1) nk ks[p] (.agg #[.bool false, .slice (some ⟨b, off, none⟩) nk ca, .slice B nv cb, .slice C nc cc]) (.slice (some ⟨b, off, none⟩) nk ca) w.heap.size b off) 9 (f 55) (f 0) w1 := hF 9 (by kernel_rfl)
        clear hF
        dsimp only at hK ⊢
        generalize f 54 = v54 at *
        generalize f 55 = v55 at *
        subst d8 d9
        have CL := Lib.hid (rest_any false ks vs cs (some ⟨b, off, none⟩) B C nk ca nv cb nc cc p w1 (H.out.bel hG.bel) HF.out (show p + 1 < nk by omega) (p : Int) rfl)
        go_simp
        refine (CL.out).mono ?_
        rintro e w2' ⟨⟨v, rfl, hv⟩, hb⟩
        exact hK.out _ _ (hG.step hb) (hv.mono hG.bel.size) (fun j _ u u' h => rhG.bel hb j u u' h)
      · -- 11: Op.store 25 t2 t48
        refine StepL.act ?_
        intro f w1 hG hF K hK
        have d2 : (rhG w (w.heap.size + 1) (w.heap.size + 1 + 1) ⟨false, ks, vs, cs⟩ p (p + 1) nk ks[p] (.agg #[.bool false, .slice (some ⟨b, off, none⟩) nk ca, .slice B nv cb, .slice C nc cc]) (.slice (some ⟨b, off, none⟩) nk ca) w.heap.size b off) 2 (f 48) (f 0) w1 := hF 2 (by kernel_rfl)
        clear hF
        dsimp only at hK ⊢
        generalize f 48 = v48 at *
        have d2 : NodeV w (partM ⟨false, ks, vs, cs⟩ 0 p) _ w1 := d2
        obtain ⟨A1, A2, A3, c1, c2, c3, hv⟩ := NodeV.shape d2
        subst hv
        have R := Lib.hid d2
        clear d2
        obtain ⟨ds, hds, hbk⟩ := hG.two
        obtain ⟨x0, x1, x2, x3, rfl⟩ := array4 hds
        have y0 : w1.cell? ⟨w.heap.size + 1, 0, none⟩ = some x0 := hbk.cell 0
        have f0 := hbk.frozen 0
        have y1 : w1.cell? ⟨w.heap.size + 1, 1, none⟩ = some x1 := hbk.cell 1
        have f1 := hbk.frozen 1
        have y2 : w1.cell? ⟨w.heap.size + 1, 2, none⟩ = some x2 := hbk.cell 2
        have f2 := hbk.frozen 2
        have y3 : w1.cell? ⟨w.heap.size + 1, 3, none⟩ = some x3 := hbk.cell 3
        have f3 := hbk.frozen 3
        generalize ((partM ⟨false, ks, vs, cs⟩ 0 p).keys.length) = l1 at *
        generalize ((partM ⟨false, ks, vs, cs⟩ 0 p).vals.length) = l2 at *
        generalize ((partM ⟨false, ks, vs, cs⟩ 0 p).kids.length) = l3 at *
        have HK := Lib.hid ((((Kept1.set w1 (w.heap.size + 1) 0 (.bool false)).trans (Kept1.set _ (w.heap.size + 1) 1 (.slice A1 l1 c1))).trans (Kept1.set _ (w.heap.size + 1) 2 (.slice A2 l2 c2))).trans (Kept1.set _ (w.heap.size + 1) 3 (.slice A3 l3 c3)))
        have HBK := Lib.hid ((((hbk.put 0 (.bool false)).put 1 (.slice A1 l1 c1)).put 2 (.slice A2 l2 c2)).put 3 (.slice A3 l3 c3))
        have hgw : w.heap.size ≤ w.heap.size + 1 := by omega
        have HBL := Lib.hid ((((hG.bel.setCell (p := ⟨w.heap.size + 1, 0, none⟩) hgw (.bool false)).setCell (p := ⟨w.heap.size + 1, 1, none⟩) hgw (.slice A1 l1 c1)).setCell (p := ⟨w.heap.size + 1, 2, none⟩) hgw (.slice A2 l2 c2)).setCell (p := ⟨w.heap.size + 1, 3, none⟩) hgw (.slice A3 l3 c3))
        have HG := Lib.hid hG
        have HB0 := Lib.hid hbk
        clear hG hbk
        go_simp
        exact hK.out undef _ ⟨bk_kept HG.out.bk (by omega) HK.out, HBL.out, ⟨_, rfl, HBK.out⟩, HG.out.four.imp fun ds h => ⟨h.1, bk_kept h.2 (by omega) HK.out⟩⟩ ⟨_, _, _, HBK.out, R.out.kept HB0.out HK.out⟩ (fun j hj u u' h => rhG.kept HB0.out HK.out j (by omega) (by omega) u u' h)
      · -- 12: Op.assign t53
        refine StepL.act ?_
        intro f w1 hG hF K hK
        have d7 : (rhG w (w.heap.size + 1) (w.heap.size + 1 + 1) ⟨false, ks, vs, cs⟩ p (p + 1) nk ks[p] (.agg #[.bool false, .slice (some ⟨b, off, none⟩) nk ca, .slice B nv cb, .slice C nc cc]) (.slice (some ⟨b, off, none⟩) nk ca) w.heap.size b off) 7 (f 53) (f 0) w1 := hF 7 (by kernel_rfl)
        clear hF
        dsimp only at hK ⊢
        generalize f 53 = v53 at *
        subst d7
        go_simp
        exact hK.out _ _ hG rfl (fun _ _ _ _ h => h)
      · -- 13: Op.store 25 t4 t56
        refine StepL.act ?_
        intro f w1 hG hF K hK
        have d10 : (rhG w (w.heap.size + 1) (w.heap.size + 1 + 1) ⟨false, ks, vs, cs⟩ p (p + 1) nk ks[p] (.agg #[.bool false, .slice (some ⟨b, off, none⟩) nk ca, .slice B nv cb, .slice C nc cc]) (.slice (some ⟨b, off, none⟩) nk ca) w.heap.size b off) 10 (f 56) (f 0) w1 := hF 10 (by kernel_rfl)
        clear hF
        dsimp only at hK ⊢
        generalize f 56 = v56 at *
        have d10 : NodeV w (partM ⟨false, ks, vs, cs⟩ (p + 1) nk) _ w1 := d10
        obtain ⟨A1, A2, A3, c1, c2, c3, hv⟩ := NodeV.shape d10
        subst hv
        have R := Lib.hid d10
        clear d10
        obtain ⟨ds, hds, hbk⟩ := hG.four
        obtain ⟨x0, x1, x2, x3, rfl⟩ := array4 hds
        have y0 : w1.cell? ⟨w.heap.size + 1 + 1, 0, none⟩ = some x0 := hbk.cell 0
        have f0 := hbk.frozen 0
        have y1 : w1.cell? ⟨w.heap.size + 1 + 1, 1, none⟩ = some x1 := hbk.cell 1
        have f1 := hbk.frozen 1
        have y2 : w1.cell? ⟨w.heap.size + 1 + 1, 2, none⟩ = some x2 := hbk.cell 2
        have f2 := hbk.frozen 2
        have y3 : w1.cell? ⟨w.heap.size + 1 + 1, 3, none⟩ = some x3 := hbk.cell 3
        have f3 := hbk.frozen 3
        generalize ((partM ⟨false, ks, vs, cs⟩ (p + 1) nk).keys.length) = l1 at *
        generalize ((partM ⟨false, ks, vs, cs⟩ (p + 1) nk).vals.length) = l2 at *
        generalize ((partM ⟨false, ks, vs, cs⟩ (p + 1) nk).kids.length) = l3 at *
        have HK := Lib.hid ((((Kept1.set w1 (w.heap.size + 1 + 1) 0 (.bool false)).trans (Kept1.set _ (w.heap.size + 1 + 1) 1 (.slice A1 l1 c1))).trans (Kept1.set _ (w.heap.size + 1 + 1) 2 (.slice A2 l2 c2))).trans (Kept1.set _ (w.heap.size + 1 + 1) 3 (.slice A3 l3 c3)))
        have HBK := Lib.hid ((((hbk.put 0 (.bool false)).put 1 (.slice A1 l1 c1)).put 2 (.slice A2 l2 c2)).put 3 (.slice A3 l3 c3))
        have hgw : w.heap.size ≤ w.heap.size + 1 + 1 := by omega
        have HBL := Lib.hid ((((hG.bel.setCell (p := ⟨w.heap.size + 1 + 1, 0, none⟩) hgw (.bool false)).setCell (p := ⟨w.heap.size + 1 + 1, 1, none⟩) hgw (.slice A1 l1 c1)).setCell (p := ⟨w.heap.size + 1 + 1, 2, none⟩) hgw (.slice A2 l2 c2)).setCell (p := ⟨w.heap.size + 1 + 1, 3, none⟩) hgw (.slice A3 l3 c3))
        have HG := Lib.hid hG
        have HB0 := Lib.hid hbk
        clear hG hbk
        go_simp
        exact hK.out undef _ ⟨bk_kept HG.out.bk (by omega) HK.out, HBL.out, HG.out.two.imp fun ds h => ⟨h.1, bk_kept h.2 (by omega) HK.out⟩, ⟨_, rfl, HBK.out⟩⟩ ⟨_, _, _, HBK.out, R.out.kept HB0.out HK.out⟩ (fun j hj u u' h => rhG.kept HB0.out HK.out j (by omega) (by omega) u u' h)
      · intro f w3 hG hF
        have e3 : f 3 = .string ks[p] := hF 12 (by decide)
        obtain ⟨a1, a2, a3, k1, R1⟩ : ∃ a1 a2 a3, Bk w3 (w.heap.size + 1) 25 #[.bool false, a1, a2, a3] ∧ NodeV w (partM ⟨false, ks, vs, cs⟩ 0 p) (.agg #[.bool false, a1, a2, a3]) w3 := hF 11 (by decide)
        obtain ⟨b1, b2, b3, k2, R2⟩ : ∃ a1 a2 a3, Bk w3 (w.heap.size + 1 + 1) 25 #[.bool false, a1, a2, a3] ∧ NodeV w (partM ⟨false, ks, vs, cs⟩ (p + 1) nk) (.agg #[.bool false, a1, a2, a3]) w3 := hF 13 (by decide)
        have HG := Lib.hid hG.bel
        clear hF hG H3
        dsimp only
        generalize f 46 = v46 at *
        generalize f 47 = v47 at *
        generalize f 48 = v48 at *
        generalize f 49 = v49 at *
        generalize f 50 = v50 at *
        generalize f 51 = v51 at *
        generalize f 52 = v52 at *
        generalize f 53 = v53 at *
        generalize f 54 = v54 at *
        generalize f 55 = v55 at *
        generalize f 56 = v56 at *
        generalize f 3 = v3 at *
        subst e3
        have x0 := k1.cell 0
        have x1 := k1.cell 1
        have x2 := k1.cell 2
        have x3 := k1.cell 3
        have z0 := k2.cell 0
        have z1 := k2.cell 1
        have z2 := k2.cell 2
        have z3 := k2.cell 3
        have HR1 := Lib.hid R1
        have HR2 := Lib.hid R2
        generalize ks[p] = key at *
        clear R1 R2 k1 k2
        go_wp2_with fail
        exact bodyPost_ret (v := .tuple #[.agg #[.bool false, a1, a2, a3], .string key, .agg #[.bool false, b1, b2, b3]]) (by simp [results, Try.results26, go_sem, x0, x1, x2, x3, z0, z1, z2, z3]) rfl ⟨⟨_, _, by rw [HM.out, HKY.out], by rw [HM.out]; exact HR1.out, by rw [HM.out]; exact HR2.out⟩, HG.out⟩
end Go.Proofs.Ytcnfnfnmpifahaa
