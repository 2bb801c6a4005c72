/- A copy of a node: its rows are new. Condition: the node's rows lie in memory. -/
import Derived.Test.YtcnfnfnmpifahaaProg
import Derived.Test.YtcnfnfnmpifahaaFormM
import Derived.Test.YtcnfnfnmpifahaaStable
import Derived.Test.YtcnfnfnmpifahaaEmpty
import Derived.WalkLawsBesides
import Derived.BigQuiet
import Derived.Deep.QuietTactic
namespace Go.Proofs.Ytcnfnfnmpifahaa
open Go.RowKit

theorem info_str : (Try.prog.info? 9).map (fun i => (i.zero, i.size, i.bytes)) = some (some (.string ⟨#[]⟩), 1, 16) := by kernel_rfl
theorem info_int : (Try.prog.info? 3).map (fun i => (i.zero, i.size, i.bytes)) = some (some (.int .i64 0), 1, 8) := by kernel_rfl
/-- A row just made, of no room. -/
def EmptyRow (g2 : Nat) (t : TypeId) (v : Value) (w : World) : Prop := ∃ g, g2 < g ∧ v = .slice (some ⟨g, 0, none⟩) 0 0 ∧ w.heap[g]? = some (.cells #[] t (0, 0))
/-- Nothing that was there has changed but for one block. -/
structure Kept1 (g2 : Nat) (w w' : World) : Prop where
  size : w.heap.size ≤ w'.heap.size
  block : ∀ b, b < w.heap.size → b ≠ g2 → w'.heap[b]? = w.heap[b]?
theorem Kept1.of_below {g2 : Nat} {w w' : World} (h : Below w.heap.size w w') : Kept1 g2 w w' := ⟨h.size, fun b hb _ => h.block b hb⟩
theorem Kept1.trans {g2 : Nat} {w w' w'' : World} (h : Kept1 g2 w w') (k : Kept1 g2 w' w'') : Kept1 g2 w w'' := ⟨Nat.le_trans h.size k.size, fun b hb hn => (k.block b (Nat.lt_of_lt_of_le hb h.size) hn).trans (h.block b hb hn)⟩
theorem Kept1.set (w : World) (g i : Nat) (v : Value) : Kept1 g w (w.setCell ⟨g, i, none⟩ v) := ⟨by simp, fun b _ hn => Below.heap_setCell w ⟨g, i, none⟩ v b hn⟩
theorem EmptyRow.kept {g2 : Nat} {t : TypeId} {v : Value} {w w' : World} (h : EmptyRow g2 t v w) (k : Kept1 g2 w w') : EmptyRow g2 t v w' := by
  obtain ⟨g, hg, rfl, hc⟩ := h
  have hl : g < w.heap.size := by
    rcases Nat.lt_or_ge g w.heap.size with h | h
    · exact h
    · rw [Array.getElem?_eq_none h] at hc; cases hc
  exact ⟨g, hg, rfl, (k.block g hl (by omega)).trans hc⟩
theorem own_kept {g2 : Nat} {t : TypeId} {v : Value} {n : Nat} {xs : List Value} {w w' : World} (h : w.ownsRow (g2 + 1) t 1 v n xs) (k : Kept1 g2 w w') : w'.ownsRow (g2 + 1) t 1 v n xs := by
  refine ⟨h.1, h.2.imp id ?_⟩
  rintro ⟨g, cap, cur, rfl, hb, hc, r⟩
  have hl : g < w.heap.size := by
    rcases Nat.lt_or_ge g w.heap.size with h | h
    · exact h
    · rw [Array.getElem?_eq_none h] at hc; cases hc
  exact ⟨g, cap, cur, rfl, hb, (k.block g hl (by omega)).trans hc, r⟩
theorem bk_kept {g2 g : Nat} {t : TypeId} {cs : Array Value} {w w' : World} (h : Bk w g t cs) (hg : g ≠ g2) (k : Kept1 g2 w w') : Bk w' g t cs := (k.block g h.lt hg).trans h
/-- Two blocks of a walk: the one that was handed in, the one that is to be answered. -/
structure TwW (w0 : World) (g1 g2 : Nat) (t : TypeId) (cs : Array Value) (w : World) : Prop where
  bk : Bk w g1 t cs
  bel : Below w0.heap.size w0 w
  two : ∃ ds, ds.size = 4 ∧ Bk w g2 t ds
/-- Three new rows that a node's value names. -/
def TwR (g2 : Nat) (_lf : Bool) (ks vs : List ByteArray) (cs : List Int) (nk nv nc : Nat) (a b c : Value) (w : World) : Prop :=
  w.ownsRow (g2 + 1) 9 1 a nk (strV ks) ∧ w.ownsRow (g2 + 1) 9 1 b nv (strV vs) ∧ w.ownsRow (g2 + 1) 3 1 c nc (intV cs)
theorem TwW.lt {w0 : World} {g1 g2 : Nat} {t : TypeId} {cs : Array Value} {w : World} (h : TwW w0 g1 g2 t cs w) : g2 < w.heap.size := by
  obtain ⟨_, _, h⟩ := h.two
  exact h.lt
theorem array4 {xs : Array Value} (h : xs.size = 4) : ∃ a b c d, xs = #[a, b, c, d] := by
  obtain ⟨l⟩ := xs
  match l, h with
  | [a, b, c, d], _ => exact ⟨a, b, c, d, rfl⟩
theorem TwR.kept {g2 : Nat} {lf : Bool} {ks vs : List ByteArray} {cs : List Int} {nk nv nc : Nat} {a b c : Value} {w w' : World} (h : TwR g2 lf ks vs cs nk nv nc a b c w) (k : Kept1 g2 w w') : TwR g2 lf ks vs cs nk nv nc a b c w' :=
  ⟨own_kept h.1 k, own_kept h.2.1 k, own_kept h.2.2 k⟩
def twF (g1 g2 : Nat) (lf : Bool) (ks vs : List ByteArray) (cs : List Int) (A B C : Option Addr) (nk ca nv cb nc cc : Nat) (i : Nat) (v _u : Value) (w : World) : Prop := match i with
  | 0 => v = .pointer (some ⟨g1, 0, none⟩)
  | 1 => v = .bool lf
  | 2 => EmptyRow g2 9 v w
  | 3 => v = .pointer (some ⟨g1, 1, none⟩)
  | 4 => v = .slice A nk ca
  | 5 => w.ownsRow (g2 + 1) 9 1 v nk (strV ks)
  | 6 => EmptyRow g2 9 v w
  | 7 => v = .pointer (some ⟨g1, 2, none⟩)
  | 8 => v = .slice B nv cb
  | 9 => w.ownsRow (g2 + 1) 9 1 v nv (strV vs)
  | 10 => EmptyRow g2 3 v w
  | 11 => v = .pointer (some ⟨g1, 3, none⟩)
  | 12 => v = .slice C nc cc
  | 13 => w.ownsRow (g2 + 1) 3 1 v nc (intV cs)
  | 14 => ∃ a b c, v = .agg #[.bool lf, a, b, c] ∧ TwR g2 lf ks vs cs nk nv nc a b c w
  | 15 => ∃ a b c, Bk w g2 25 #[.bool lf, a, b, c] ∧ TwR g2 lf ks vs cs nk nv nc a b c w
  | _ => True
section
variable {g1 g2 : Nat} {lf : Bool} {ks vs : List ByteArray} {cs : List Int} {A B C : Option Addr} {nk ca nv cb nc cc : Nat}
theorem twF.kept {w w' : World} (k : Kept1 g2 w w') : ∀ j, j ≠ 15 → ∀ u u', twF g1 g2 lf ks vs cs A B C nk ca nv cb nc cc j u u' w → twF g1 g2 lf ks vs cs A B C nk ca nv cb nc cc j u u' w' := by
  intro j hj u u' h
  unfold twF at *
  split at h <;> first | exact h | exact EmptyRow.kept h k | exact own_kept h k | skip
  · obtain ⟨a, b, c, rfl, h⟩ := h
    exact ⟨a, b, c, rfl, h.kept k⟩
  · exact absurd rfl hj
theorem twF.bel {w w' : World} (k : Below w.heap.size w w') : ∀ j u u', twF g1 g2 lf ks vs cs A B C nk ca nv cb nc cc j u u' w → twF g1 g2 lf ks vs cs A B C nk ca nv cb nc cc j u u' w' := by
  intro j u u' h
  by_cases hj : j = 15
  · subst hj
    obtain ⟨a, b, c, h1, h2⟩ := h
    exact ⟨a, b, c, h1.bel k, h2.kept (Kept1.of_below k)⟩
  · exact twF.kept (Kept1.of_below k) j hj u u' h
end
theorem own_none {w : World} {base n c : Nat} {e : TypeId} {A : Option Addr} {xs : List Value} (h : w.ownsRow base e 1 (.slice A n c) n xs) (hA : A = none) : c = 0 := by
  subst hA
  rcases h.2 with ⟨h1, _⟩ | ⟨g, cap, cur, h1, _⟩
  · simp at h1; exact h1.2
  · simp at h1
set_option maxRecDepth 100000 in
set_option maxHeartbeats 1000000 in
theorem twin_own (lf : Bool) (ks vs : List ByteArray) (cs : List Int) (A B C : Option Addr) (nk ca nv cb nc cc : Nat) (w : World) (h : Nd w ⟨lf, ks, vs, cs⟩ A B C nk ca nv cb nc cc) :
    Calls Try.prog 7 #[.agg #[.bool lf, .slice A nk ca, .slice B nv cb, .slice C nc cc]] w fun e w' => (∃ A' B' C' c1 c2 c3, e = .returned (.agg #[.bool lf, .slice A' nk c1, .slice B' nv c2, .slice C' nc c3]) ∧ Nd w' ⟨lf, ks, vs, cs⟩ A' B' C' nk c1 nv c2 nc c3 ∧ (A' = none → c1 = 0) ∧ (B' = none → c2 = 0)) ∧ Below w.heap.size w w' := by
  have H := Lib.hid h
  clear h
  have H0' : TwW w w.heap.size (w.heap.size + 1) 25 #[.bool lf, .slice A nk ca, .slice B nv cb, .slice C nc cc] (((w.alloc (.cells #[.bool lf, .slice A nk ca, .slice B nv cb, .slice C nc cc] 25)).alloc (.cells #[.bool false, .slice none 0 0, .slice none 0 0, .slice none 0 0] 25)).drew) := by
    have h1 := Bk.new (w.alloc (.cells #[.bool lf, .slice A nk ca, .slice B nv cb, .slice C nc cc] 25)) 25 #[.bool false, .slice none 0 0, .slice none 0 0, .slice none 0 0]
    rw [World.size_alloc] at h1
    exact ⟨((Bk.new w _ _).alloc _).drew, (((Below.refl _ _).alloc (Nat.le_refl _) _).alloc (by simp) _).drew, _, rfl, h1.drew⟩
  have H0 := Lib.hid H0'
  clear H0'
  obtain ⟨is, his, hzs, hzs1, hzs2⟩ := info_parts info_str
  obtain ⟨ii, hii, hzi, hzi1, hzi2⟩ := info_parts info_int
  go_enter Try.func7, Try.ntmps7
  go_wp2_with fail
  obtain ⟨g1, hg1⟩ : ∃ g1, g1 = w.heap.size := ⟨_, rfl⟩
  refine wp_region_list [some 3, some 4, some 5, some 6, some 7, some 8, some 9, some 10, some 11, some 12, some 13, some 14, some 15, some 16, some 17, none] (fun _ => 0) (twF w.heap.size (w.heap.size + 1) lf ks vs cs A B C nk ca nv cb nc cc) (TwW w w.heap.size (w.heap.size + 1) 25 #[.bool lf, .slice A nk ca, .slice B nv cb, .slice C nc cc]) (by kernel_rfl) H0.out rfl (by kernel_rfl) (by kernel_rfl) (by kernel_rfl) (by kernel_rfl) (fun T hT => ?_)
  simp only [List.filterMap_cons, List.filterMap_nil, id, putsS, Act.put, List.setIfInBounds_toArray, List.set_cons_zero, List.set_cons_succ] at hT
  subst hT
  refine ⟨⟨?_, ?_, ?_, ?_, ?_, ?_, ?_, ?_, ?_, ?_, ?_, ?_, ?_, ?_, ?_, ?_, trivial⟩, ?_⟩
  · -- 0: Op.fieldAddr 25 t1 0
    refine StepL.act ?_
    intro f w1 hG hF K hK
    clear hF
    dsimp only at hK ⊢
    try simp only [updS, slotV, Nat.reduceEqDiff, ↓reduceIte] at hK
    go_simp
    exact hK.out _ _ hG rfl (fun _ _ _ _ h => h)
  · -- 1: Op.load 4 t3
    refine StepL.act ?_
    intro f w1 hG hF K hK
    have d0 := hF 0 (by kernel_rfl)
    simp only [FactL, slotS, List.getElem?_cons_zero, Option.join_some] at d0
    clear hF
    dsimp only at hK ⊢
    try simp only [updS, slotV, Nat.reduceAdd, Nat.reduceEqDiff, ↓reduceIte] at hK
    generalize f 3 = v3 at *
    subst d0
    have y := hG.bk.cell 0
    go_simp
    exact hK.out _ _ hG rfl (fun _ _ _ _ h => h)
  · -- 2: Op.buildSlice 22 0 #[]
    refine StepL.act ?_
    intro f w1 hG hF K hK
    clear hF
    dsimp only at hK ⊢
    try simp only [updS, slotV, Nat.reduceAdd, Nat.reduceEqDiff, ↓reduceIte] at hK
    go_simp
    refine hK.out _ _ ⟨hG.bk.alloc _, hG.bel.alloc hG.bel.size _, hG.two.imp fun ds h => ⟨h.1, h.2.alloc _⟩⟩ ⟨w1.heap.size, hG.lt, rfl, heap_alloc_new w1 _⟩ (fun j _ u u' h => twF.bel ((Below.refl _ _).alloc (Nat.le_refl _) _) j u u' h)
  · -- 3: Op.fieldAddr 25 t1 1
    refine StepL.act ?_
    intro f w1 hG hF K hK
    clear hF
    dsimp only at hK ⊢
    try simp only [updS, slotV, Nat.reduceAdd, Nat.reduceEqDiff, ↓reduceIte] at hK
    go_simp
    exact hK.out _ _ hG rfl (fun _ _ _ _ h => h)
  · -- 4: Op.load 22 t6
    refine StepL.act ?_
    intro f w1 hG hF K hK
    have d3 := hF 3 (by kernel_rfl)
    simp only [FactL, slotS, List.getElem?_cons_zero, List.getElem?_cons_succ, Option.join_some] at d3
    clear hF
    dsimp only at hK ⊢
    try simp only [updS, slotV, Nat.reduceAdd, Nat.reduceEqDiff, ↓reduceIte] at hK
    generalize f 6 = v6 at *
    subst d3
    have y := hG.bk.cell 1
    go_simp
    exact hK.out _ _ hG rfl (fun _ _ _ _ h => h)
  · -- 5: Op.call ( builtin append, args := #[t5, t7], argTypes := #[22, 22] )
    refine StepL.act ?_
    intro f w1 hG hF K hK
    have d2 := hF 2 (by kernel_rfl)
    have d4 := hF 4 (by kernel_rfl)
    simp only [FactL, slotS, List.getElem?_cons_zero, List.getElem?_cons_succ, Option.join_some] at d2 d4
    clear hF
    dsimp only at hK ⊢
    try simp only [updS, slotV, Nat.reduceAdd, Nat.reduceEqDiff, ↓reduceIte] at hK
    generalize f 5 = v5 at *
    generalize f 7 = v7 at *
    have d4 : v7 = .slice A nk ca := d4
    subst d4
    obtain ⟨g, hg, rfl, hg0⟩ := d2
    have b0 := H.out.bk
    obtain ⟨v', w2, hrun, hown, hb⟩ := run_append_empty (P := Try.prog) w1 (w.heap.size + 1 + 1) 22 22 9 is _ 16 Try.underlying22 his hzs hzs1 hzs2 rfl g hg hg0 A nk ca (strV ks) (by rw [strV_length]; exact H.out.ek) (H.out.sk.bel hG.bel) (strV_one _) (by simp only [maxLen]; omega) (by omega)
    exact Lib.wp_append_run w1 _ _ _ _ rfl _ _ rfl rfl v' w2 hrun (hK.out _ _ ⟨hG.bk.bel hb, hG.bel.trans (hb.mono hG.bel.size), hG.two.imp fun ds h => ⟨h.1, h.2.bel hb⟩⟩ hown (fun j _ u u' h => twF.bel hb j u u' h))
  · -- 6: Op.buildSlice 22 0 #[]
    refine StepL.act ?_
    intro f w1 hG hF K hK
    clear hF
    dsimp only at hK ⊢
    try simp only [updS, slotV, Nat.reduceAdd, Nat.reduceEqDiff, ↓reduceIte] at hK
    go_simp
    refine hK.out _ _ ⟨hG.bk.alloc _, hG.bel.alloc hG.bel.size _, hG.two.imp fun ds h => ⟨h.1, h.2.alloc _⟩⟩ ⟨w1.heap.size, hG.lt, rfl, heap_alloc_new w1 _⟩ (fun j _ u u' h => twF.bel ((Below.refl _ _).alloc (Nat.le_refl _) _) j u u' h)
  · -- 7: Op.fieldAddr 25 t1 2
    refine StepL.act ?_
    intro f w1 hG hF K hK
    clear hF
    dsimp only at hK ⊢
    try simp only [updS, slotV, Nat.reduceAdd, Nat.reduceEqDiff, ↓reduceIte] at hK
    go_simp
    exact hK.out _ _ hG rfl (fun _ _ _ _ h => h)
  · -- 8: Op.load 22 t10
    refine StepL.act ?_
    intro f w1 hG hF K hK
    have d7 := hF 7 (by kernel_rfl)
    simp only [FactL, slotS, List.getElem?_cons_zero, List.getElem?_cons_succ, Option.join_some] at d7
    clear hF
    dsimp only at hK ⊢
    try simp only [updS, slotV, Nat.reduceAdd, Nat.reduceEqDiff, ↓reduceIte] at hK
    generalize f 10 = v10 at *
    subst d7
    have y := hG.bk.cell 2
    go_simp
    exact hK.out _ _ hG rfl (fun _ _ _ _ h => h)
  · -- 9: Op.call ( builtin append, args := #[t9, t11], argTypes := #[22, 22] )
    refine StepL.act ?_
    intro f w1 hG hF K hK
    have d6 := hF 6 (by kernel_rfl)
    have d8 := hF 8 (by kernel_rfl)
    simp only [FactL, slotS, List.getElem?_cons_zero, List.getElem?_cons_succ, Option.join_some] at d6 d8
    clear hF
    dsimp only at hK ⊢
    try simp only [updS, slotV, Nat.reduceAdd, Nat.reduceEqDiff, ↓reduceIte] at hK
    generalize f 9 = v9 at *
    generalize f 11 = v11 at *
    have d8 : v11 = .slice B nv cb := d8
    subst d8
    obtain ⟨g, hg, rfl, hg0⟩ := d6
    have b0 := H.out.bv
    obtain ⟨v', w2, hrun, hown, hb⟩ := run_append_empty (P := Try.prog) w1 (w.heap.size + 1 + 1) 22 22 9 is _ 16 Try.underlying22 his hzs hzs1 hzs2 rfl g hg hg0 B nv cb (strV vs) (by rw [strV_length]; exact H.out.ev) (H.out.sv.bel hG.bel) (strV_one _) (by simp only [maxLen]; omega) (by omega)
    exact Lib.wp_append_run w1 _ _ _ _ rfl _ _ rfl rfl v' w2 hrun (hK.out _ _ ⟨hG.bk.bel hb, hG.bel.trans (hb.mono hG.bel.size), hG.two.imp fun ds h => ⟨h.1, h.2.bel hb⟩⟩ hown (fun j _ u u' h => twF.bel hb j u u' h))
  · -- 10: Op.buildSlice 23 0 #[]
    refine StepL.act ?_
    intro f w1 hG hF K hK
    clear hF
    dsimp only at hK ⊢
    try simp only [updS, slotV, Nat.reduceAdd, Nat.reduceEqDiff, ↓reduceIte] at hK
    go_simp
    refine hK.out _ _ ⟨hG.bk.alloc _, hG.bel.alloc hG.bel.size _, hG.two.imp fun ds h => ⟨h.1, h.2.alloc _⟩⟩ ⟨w1.heap.size, hG.lt, rfl, heap_alloc_new w1 _⟩ (fun j _ u u' h => twF.bel ((Below.refl _ _).alloc (Nat.le_refl _) _) j u u' h)
  · -- 11: Op.fieldAddr 25 t1 3
    refine StepL.act ?_
    intro f w1 hG hF K hK
    clear hF
    dsimp only at hK ⊢
    try simp only [updS, slotV, Nat.reduceAdd, Nat.reduceEqDiff, ↓reduceIte] at hK
    go_simp
    exact hK.out _ _ hG rfl (fun _ _ _ _ h => h)
  · -- 12: Op.load 23 t14
    refine StepL.act ?_
    intro f w1 hG hF K hK
    have d11 := hF 11 (by kernel_rfl)
    simp only [FactL, slotS, List.getElem?_cons_zero, List.getElem?_cons_succ, Option.join_some] at d11
    clear hF
    dsimp only at hK ⊢
    try simp only [updS, slotV, Nat.reduceAdd, Nat.reduceEqDiff, ↓reduceIte] at hK
    generalize f 14 = v14 at *
    subst d11
    have y := hG.bk.cell 3
    go_simp
    exact hK.out _ _ hG rfl (fun _ _ _ _ h => h)
  · -- 13: Op.call ( builtin append, args := #[t13, t15], argTypes := #[23, 23] )
    refine StepL.act ?_
    intro f w1 hG hF K hK
    have d10 := hF 10 (by kernel_rfl)
    have d12 := hF 12 (by kernel_rfl)
    simp only [FactL, slotS, List.getElem?_cons_zero, List.getElem?_cons_succ, Option.join_some] at d10 d12
    clear hF
    dsimp only at hK ⊢
    try simp only [updS, slotV, Nat.reduceAdd, Nat.reduceEqDiff, ↓reduceIte] at hK
    generalize f 13 = v13 at *
    generalize f 15 = v15 at *
    have d12 : v15 = .slice C nc cc := d12
    subst d12
    obtain ⟨g, hg, rfl, hg0⟩ := d10
    have b0 := H.out.bc
    obtain ⟨v', w2, hrun, hown, hb⟩ := run_append_empty (P := Try.prog) w1 (w.heap.size + 1 + 1) 23 23 3 ii _ 8 Try.underlying23 hii hzi hzi1 hzi2 rfl g hg hg0 C nc cc (intV cs) (by rw [intV_length]; exact H.out.ec) (H.out.sc.bel hG.bel) (intV_one _) (by simp only [maxLen]; omega) (by omega)
    exact Lib.wp_append_run w1 _ _ _ _ rfl _ _ rfl rfl v' w2 hrun (hK.out _ _ ⟨hG.bk.bel hb, hG.bel.trans (hb.mono hG.bel.size), hG.two.imp fun ds h => ⟨h.1, h.2.bel hb⟩⟩ hown (fun j _ u u' h => twF.bel hb j u u' h))
  · -- 14: Op.build 25 #[(0, t4), (1, t8), (2, t12), (3, t16)]
    refine StepL.act ?_
    intro f w1 hG hF K hK
    have d1 := hF 1 (by kernel_rfl)
    have d5 := hF 5 (by kernel_rfl)
    have d9 := hF 9 (by kernel_rfl)
    have d13 := hF 13 (by kernel_rfl)
    simp only [FactL, slotS, List.getElem?_cons_zero, List.getElem?_cons_succ, Option.join_some] at d1 d5 d9 d13
    clear hF
    dsimp only at hK ⊢
    try simp only [updS, slotV, Nat.reduceAdd, Nat.reduceEqDiff, ↓reduceIte] at hK
    generalize f 4 = v4 at *
    generalize f 8 = v8 at *
    generalize f 12 = v12 at *
    generalize f 16 = v16 at *
    have d1 : v4 = .bool lf := d1
    subst d1
    have d5 : w1.ownsRow (w.heap.size + 1 + 1) 9 1 v8 nk (strV ks) := d5
    have d9 : w1.ownsRow (w.heap.size + 1 + 1) 9 1 v12 nv (strV vs) := d9
    have d13 : w1.ownsRow (w.heap.size + 1 + 1) 3 1 v16 nc (intV cs) := d13
    have R : TwR (w.heap.size + 1) lf ks vs cs nk nv nc v8 v12 v16 w1 := ⟨d5, d9, d13⟩
    obtain ⟨A1, c1, rfl, _, _⟩ := own_shape d5
    obtain ⟨A2, c2, rfl, _, _⟩ := own_shape d9
    obtain ⟨A3, c3, rfl, _, _⟩ := own_shape d13
    clear d5 d9 d13
    go_simp
    exact hK.out _ _ hG ⟨_, _, _, rfl, R⟩ (fun _ _ _ _ h => h)
  · -- 15: Op.store 25 t2 t17
    refine StepL.act ?_
    intro f w1 hG hF K hK
    have d14 := hF 14 (by kernel_rfl)
    simp only [FactL, slotS, List.getElem?_cons_zero, List.getElem?_cons_succ, Option.join_some] at d14
    clear hF
    dsimp only at hK ⊢
    try simp only [updS, slotV, Nat.reduceAdd] at hK
    generalize f 17 = v17 at *
    obtain ⟨a, b, c, rfl, R⟩ := d14
    obtain ⟨A1, c1, rfl, _, _⟩ := own_shape R.1
    obtain ⟨A2, c2, rfl, _, _⟩ := own_shape R.2.1
    obtain ⟨A3, c3, rfl, _, _⟩ := own_shape R.2.2
    obtain ⟨ds, hds, hb2⟩ := hG.two
    obtain ⟨x0, x1, x2, x3, rfl⟩ := array4 hds
    have y0 : w1.cell? ⟨w.heap.size + 1, 0, none⟩ = some x0 := hb2.cell 0
    have f0 := hb2.frozen 0
    have y1 : w1.cell? ⟨w.heap.size + 1, 1, none⟩ = some x1 := hb2.cell 1
    have f1 := hb2.frozen 1
    have y2 : w1.cell? ⟨w.heap.size + 1, 2, none⟩ = some x2 := hb2.cell 2
    have f2 := hb2.frozen 2
    have y3 : w1.cell? ⟨w.heap.size + 1, 3, none⟩ = some x3 := hb2.cell 3
    have f3 := hb2.frozen 3
    have hk : Kept1 (w.heap.size + 1) w1 ((((w1.setCell ⟨w.heap.size + 1, 0, none⟩ (.bool lf)).setCell ⟨w.heap.size + 1, 1, none⟩ (.slice A1 nk c1)).setCell ⟨w.heap.size + 1, 2, none⟩ (.slice A2 nv c2)).setCell ⟨w.heap.size + 1, 3, none⟩ (.slice A3 nc c3)) := (((Kept1.set w1 _ _ _).trans (Kept1.set _ _ _ _)).trans (Kept1.set _ _ _ _)).trans (Kept1.set _ _ _ _)
    have hbk := (((hb2.put 0 (.bool lf)).put 1 (.slice A1 nk c1)).put 2 (.slice A2 nv c2)).put 3 (.slice A3 nc c3)
    have hbel : Below w.heap.size w ((((w1.setCell ⟨w.heap.size + 1, 0, none⟩ (.bool lf)).setCell ⟨w.heap.size + 1, 1, none⟩ (.slice A1 nk c1)).setCell ⟨w.heap.size + 1, 2, none⟩ (.slice A2 nv c2)).setCell ⟨w.heap.size + 1, 3, none⟩ (.slice A3 nc c3)) := (((hG.bel.setCell (by show w.heap.size ≤ w.heap.size + 1; omega) _).setCell (by show w.heap.size ≤ w.heap.size + 1; omega) _).setCell (by show w.heap.size ≤ w.heap.size + 1; omega) _).setCell (by show w.heap.size ≤ w.heap.size + 1; omega) _
    have HK := Lib.hid hk
    have HBK := Lib.hid hbk
    have HBL := Lib.hid hbel
    have HR := Lib.hid R
    have HG := Lib.hid hG
    clear hk hbk hbel R hG hb2
    go_simp
    exact hK.out undef _ ⟨bk_kept HG.out.bk (by omega) HK.out, HBL.out, _, rfl, HBK.out⟩ ⟨_, _, _, HBK.out, HR.out.kept HK.out⟩ (fun j hj u u' h => twF.kept HK.out j hj u u' h)
  · intro f w1 hG hF
    obtain ⟨a, b, c, hbk, R⟩ : ∃ a b c, Bk w1 (w.heap.size + 1) 25 #[.bool lf, a, b, c] ∧ TwR (w.heap.size + 1) lf ks vs cs nk nv nc a b c w1 := hF 15 (by decide)
    have HB := Lib.hid hG.bel
    clear hF hG
    dsimp only
    generalize f 3 = v3
    generalize f 4 = v4
    generalize f 5 = v5
    generalize f 6 = v6
    generalize f 7 = v7
    generalize f 8 = v8
    generalize f 9 = v9
    generalize f 10 = v10
    generalize f 11 = v11
    generalize f 12 = v12
    generalize f 13 = v13
    generalize f 14 = v14
    generalize f 15 = v15
    generalize f 16 = v16
    generalize f 17 = v17
    have y0 := hbk.cell 0
    have y1 := hbk.cell 1
    have y2 := hbk.cell 2
    have y3 := hbk.cell 3
    have HR := Lib.hid R
    obtain ⟨A1, c1, rfl, k1, S1⟩ := own_shape R.1
    obtain ⟨A2, c2, rfl, k2, S2⟩ := own_shape R.2.1
    obtain ⟨A3, c3, rfl, k3, S3⟩ := own_shape R.2.2
    have S1 := Lib.hid S1
    have S2 := Lib.hid S2
    have S3 := Lib.hid S3
    clear R hbk
    go_wp2_with fail
    refine bodyPost_ret (v := .agg #[.bool lf, .slice A1 nk c1, .slice A2 nv c2, .slice A3 nc c3]) (by simp [results, Try.results7, go_sem, y0, y1, y2, y3]) rfl ⟨⟨A1, A2, A3, c1, c2, c3, rfl, ?_, own_none HR.out.1, own_none HR.out.2.1⟩, HB.out⟩
    exact ⟨H.out.ek, H.out.ev, H.out.ec, S1.out, S2.out, S3.out, H.out.bk, H.out.bv, H.out.bc, k1, k2, k3, H.out.zk, H.out.zv⟩
theorem twin_any (lf : Bool) (ks vs : List ByteArray) (cs : List Int) (A B C : Option Addr) (nk ca nv cb nc cc : Nat) (w : World) (h : Nd w ⟨lf, ks, vs, cs⟩ A B C nk ca nv cb nc cc) :
    Calls Try.prog 7 #[.agg #[.bool lf, .slice A nk ca, .slice B nv cb, .slice C nc cc]] w fun e w' => (∃ A' B' C' c1 c2 c3, e = .returned (.agg #[.bool lf, .slice A' nk c1, .slice B' nv c2, .slice C' nc c3]) ∧ Nd w' ⟨lf, ks, vs, cs⟩ A' B' C' nk c1 nv c2 nc c3) ∧ Below w.heap.size w w' := by
  refine (twin_own lf ks vs cs A B C nk ca nv cb nc cc w h).mono ?_
  rintro e w' ⟨⟨A', B', C', c1, c2, c3, h1, h2, _⟩, h3⟩
  exact ⟨⟨A', B', C', c1, c2, c3, h1, h2⟩, h3⟩
end Go.Proofs.Ytcnfnfnmpifahaa
