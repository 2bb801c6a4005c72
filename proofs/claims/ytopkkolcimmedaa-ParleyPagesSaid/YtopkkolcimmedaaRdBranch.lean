/- A branch is read. Condition: the bytes lie in memory, apart from the reader. -/
import Derived.Test.YtopkkolcimmedaaRdLeaf
namespace Go.Proofs.Ytopkkolcimmedaa
open Go.RowKit

/-- Where the loop of the branch stands. -/
structure BrS (w : World) (q k : Nat) (k0 : Int) (ks : List ByteArray) (cs : List Int) (l : List Nat) (K C : Value) (wr : World) : Prop where
  kq : KQ q w wr
  rd : Rd w.heap.size wr q l
  res : Bk wr w.heap.size 30 #[.bool false, .slice none 0 0, .slice none 0 0, .slice none 0 0]
  nd : Bk wr (w.heap.size + 1) 30 #[.bool false, K, .slice none 0 0, C]
  ok : wr.ownsRow w.heap.size 9 1 K k (strV ks)
  oc : wr.ownsRow w.heap.size 3 1 C (k + 1) (intV (k0 :: cs))
  ap : Apart K C
def BrP (w : World) (q c : Nat) (k0 : Int) (l1 : List Nat) (k : Nat) (wr : World) : Prop :=
  ∃ ks cs l K C, BrS w q k k0 ks cs l K C wr ∧ (∀ x ∈ l, x < 256) ∧ branchP c l1 = (branchP (c - k) l).map fun r => (ks ++ r.1, cs ++ r.2.1, r.2.2)
theorem nil_apart (v : Value) : Apart (.slice none 0 0) v := fun _ h => by simp [Value.ownBlock] at h
set_option maxRecDepth 100000 in
set_option maxHeartbeats 4000000 in
theorem branch_any (q c : Nat) (l0 : List Nat) (w : World) (h : Rd w.heap.size w q (c :: l0)) (hl : ∀ x ∈ c :: l0, x < 256) :
    Calls Try.prog 47 #[.pointer (some ⟨q, 0, none⟩)] w (RdPost w.heap.size w q ((kidP l0).bind fun a => (branchP c a.2).map fun r => (⟨false, r.1, [], a.1 :: r.2.1⟩, r.2.2))) := by
  obtain ⟨i0, hi0, hz0, hz1, hz2⟩ := info_parts info_str
  obtain ⟨j0, hj0, hj1, hj2, hj3⟩ := info_parts info_int
  obtain ⟨PB, hPB⟩ : ∃ PB : Option (NodeM × List Nat), PB = ((kidP l0).bind fun a => (branchP c a.2).map fun r => (⟨false, r.1, [], a.1 :: r.2.1⟩, r.2.2)) := ⟨_, rfl⟩
  rw [← hPB]
  have HPB := Lib.hid hPB
  clear hPB
  have hq := h.lt
  have hc := hl c (by simp)
  have HL := Lib.hid (show ∀ x ∈ l0, x < 256 from fun x hx => hl x (List.mem_cons_of_mem _ hx))
  obtain ⟨wa, hwa⟩ : ∃ wa, wa = w.alloc (.cells #[.bool false, .slice none 0 0, .slice none 0 0, .slice none 0 0] 30) := ⟨_, rfl⟩
  obtain ⟨wb, hwb⟩ : ∃ wb, wb = wa.alloc (.cells #[.bool false, .slice none 0 0, .slice none 0 0, .slice none 0 0] 30) := ⟨_, rfl⟩
  have hsa : wa.heap.size = w.heap.size + 1 := by rw [hwa]; simp
  have Ba : Below w.heap.size w wa := by rw [hwa]; exact (Below.refl _ _).alloc (Nat.le_refl _) _
  have Bb : Below w.heap.size w wb := by rw [hwb]; exact Ba.alloc (by omega) _
  have X1 : Bk wb w.heap.size 30 #[.bool false, .slice none 0 0, .slice none 0 0, .slice none 0 0] := by rw [hwb, hwa]; exact (Bk.new w _ _).alloc _
  have X2 : Bk wb (w.heap.size + 1) 30 #[.bool false, .slice none 0 0, .slice none 0 0, .slice none 0 0] := by rw [hwb, ← hsa]; exact Bk.new wa _ _
  have HT := Lib.hid (number_ok q c l0 hc wb (h.bel Bb))
  have HX1 := Lib.hid X1
  have HX2 := Lib.hid X2
  have HBb := Lib.hid (KQ.of_below hq Bb)
  have HWA := Lib.hid hwa
  have HWB := Lib.hid hwb
  clear h hl X1 X2 Ba Bb hwa hwb hsa
  go_enter Try.func47, Try.ntmps47
  go_upto_region 2 with fail
  rw [← HWA.out, ← HWB.out]
  go_wp2_with fail
  refine HT.out.mono ?_
  rintro e w1 ⟨rfl, hr, hk⟩
  have hB1 : w.heap.size ≤ w1.heap.size := (HBb.out.trans hk).kept.size
  have hx1 : Bk w1 w.heap.size 30 #[.bool false, .slice none 0 0, .slice none 0 0, .slice none 0 0] := bk_kept HX1.out (by omega) hk.kept
  have hx2 : Bk w1 (w.heap.size + 1) 30 #[.bool false, .slice none 0 0, .slice none 0 0, .slice none 0 0] := bk_kept HX2.out (by omega) hk.kept
  have G0 := Lib.hid (show ApG w w.heap.size q w.heap.size (w.heap.size + 1) 30 #[.bool false, .slice none 0 0, .slice none 0 0, .slice none 0 0] 9 9 (.slice none 0 0) (.slice none 0 0) 0 0 [] [] (Value.ownBlock (.slice none 0 0)) w1.drew from
    ⟨(HBb.out.trans hk).drewN 1, hx2.lt, hx1, World.ownsRow_nil _ _ _ _, World.ownsRow_nil _ _ _ _, fun b e => by simp [Value.ownBlock] at e, hq, Nat.le_refl _, by omega, by omega, rfl⟩)
  have H0 := Lib.hid (show ∀ m, m < 8 → apH w.heap.size q (w.heap.size + 1) 30 3 (fun v => #[.bool false, .slice none 0 0, .slice none 0 0, v]) (.slice none 0 0) 0 [] l0 m w1.drew from fun m _ => by
    unfold apH
    split
    · exact hr
    · exact World.ownsRow_nil _ _ _ _
    · exact hx2
    · trivial)
  clear hr hk hx1 hx2 HT HX1 HX2 HBb HWA HWB
  cases hkd : kidP l0 with
  | none =>
    have HPost := Lib.hid (show ∀ w', KQ q w w' → RdPost w.heap.size w q PB (.panicked brokenE) w' from fun w' hk => ⟨hk, by rw [HPB.out, hkd]; rfl⟩)
    have HP := Lib.hid hkd
    clear hkd
    go_wp2_with fail
    refine wp_region_late [some 8, some 9, some 10, some 11, some 12, some 13, some 14, none] (fun _ => 0) (apN q (w.heap.size + 1) 3 (.slice none 0 0)) (ApG w w.heap.size q w.heap.size (w.heap.size + 1) 30 #[.bool false, .slice none 0 0, .slice none 0 0, .slice none 0 0] 9 9 (.slice none 0 0) (.slice none 0 0) 0 0 [] [] (Value.ownBlock (.slice none 0 0))) (apH w.heap.size q (w.heap.size + 1) 30 3 (fun v => #[.bool false, .slice none 0 0, .slice none 0 0, v]) (.slice none 0 0) 0 [] l0) (by kernel_rfl) G0.out H0.out rfl (by kernel_rfl) (by kernel_rfl) (by kernel_rfl) (by kernel_rfl) (fun T hT => ?_)
    simp only [List.filterMap_cons, List.filterMap_nil, id, putsS, Act.put, List.setIfInBounds_toArray, List.set_cons_zero, List.set_cons_succ] at hT
    subst hT
    refine ⟨⟨?_, ?_, ?_, ?_, ?_, ?_, ?_, ?_, trivial⟩, ?_⟩
    · -- 0: Op.fieldAddr 25 t3 3
      intro f w1 hG hO hL hF K hK
      clear hF hO hL
      dsimp only at hK ⊢
      go_simp
      exact hK.out _ _ hG rfl (fun _ _ _ h => h) (fun _ _ h => h)
    · -- 1: Op.load 23 t8
      intro f w1 hG hO hL hF K hK
      have l7 : (apH w.heap.size q (w.heap.size + 1) 30 3 (fun v => #[.bool false, .slice none 0 0, .slice none 0 0, v]) (.slice none 0 0) 0 [] l0) 7 w1 := hL 7 (Nat.le_of_ble_eq_true (by kernel_rfl)) (by kernel_rfl)
      have d0 : (apN q (w.heap.size + 1) 3 (.slice none 0 0)) 0 (f 8) (f 0) w1 := hF 0 (by kernel_rfl)
      clear hF hO hL
      dsimp only at hK ⊢
      generalize hf8 : f 8 = v8 at *
      subst d0
      have y : w1.cell? ⟨(w.heap.size + 1), 3, none⟩ = some (.slice none 0 0) := Bk.cell l7 3
      go_simp
      exact hK.out _ _ hG rfl (fun _ _ _ h => h) (fun _ _ h => h)
    · -- 2: Op.move t0
      intro f w1 hG hO hL hF K hK
      clear hF hO hL
      dsimp only at hK ⊢
      go_simp
      exact hK.out _ _ hG rfl (fun _ _ _ h => h) (fun _ _ h => h)
    · -- 3: Op.call ( value (Operand.func 61), args := #[t10], argTypes := #[55] )
      intro f w1 hG hO hL hF K hK
      have l3 : (apH w.heap.size q (w.heap.size + 1) 30 3 (fun v => #[.bool false, .slice none 0 0, .slice none 0 0, v]) (.slice none 0 0) 0 [] l0) 3 w1 := hL 3 (Nat.le_of_ble_eq_true (by kernel_rfl)) (by kernel_rfl)
      have d2 : (apN q (w.heap.size + 1) 3 (.slice none 0 0)) 2 (f 10) (f 0) w1 := hF 2 (by kernel_rfl)
      clear hF hO hL
      dsimp only at hK ⊢
      generalize hf10 : f 10 = v10 at *
      subst d2
      go_simp
      refine (kid_no q l0 w1 l3 HL.out HP.out).mono ?_
      rintro e w2' ⟨rfl, hk⟩
      exact ⟨rfl, HPost.out _ (hG.kq.trans hk)⟩
    · -- 4: Op.buildSlice 23 1 #[(0, t11)]
      intro f w1 hG hO hL hF K hK
      have d3 : (apN q (w.heap.size + 1) 3 (.slice none 0 0)) 3 (f 11) (f 0) w1 := hF 3 (by kernel_rfl)
      clear hF hO hL
      dsimp only at hK ⊢
      generalize hf11 : f 11 = v11 at *
      exact False.elim d3
    · -- 5: Op.call ( builtin append, args := #[t9, t12], argTypes := #[23, 23] )
      intro f w1 hG hO hL hF K hK
      have d1 : (apN q (w.heap.size + 1) 3 (.slice none 0 0)) 1 (f 9) (f 0) w1 := hF 1 (by kernel_rfl)
      have d4 : (apN q (w.heap.size + 1) 3 (.slice none 0 0)) 4 (f 12) (f 0) w1 := hF 4 (by kernel_rfl)
      clear hF hO hL
      dsimp only at hK ⊢
      generalize hf9 : f 9 = v9 at *
      generalize hf12 : f 12 = v12 at *
      exact False.elim d4
    · -- 6: Op.fieldAddr 25 t3 3
      intro f w1 hG hO hL hF K hK
      clear hF hO hL
      dsimp only at hK ⊢
      go_simp
      exact hK.out _ _ hG rfl (fun _ _ _ h => h) (fun _ _ h => h)
    · -- 7: Op.store 23 t14 t13
      intro f w1 hG hO hL hF K hK
      have d6 : (apN q (w.heap.size + 1) 3 (.slice none 0 0)) 6 (f 14) (f 0) w1 := hF 6 (by kernel_rfl)
      have d5 : (apN q (w.heap.size + 1) 3 (.slice none 0 0)) 5 (f 13) (f 0) w1 := hF 5 (by kernel_rfl)
      clear hF hO hL
      dsimp only at hK ⊢
      generalize hf14 : f 14 = v14 at *
      generalize hf13 : f 13 = v13 at *
      exact False.elim d5
    intro f w6 hG hF
    have f3 : False := hF 3 (by decide)
    exact f3.elim
  | some a =>
    obtain ⟨k0, l1⟩ := a
    have HPC := Lib.hid (show PB = (branchP c l1).map fun r => (⟨false, r.1, [], k0 :: r.2.1⟩, r.2.2) by rw [HPB.out, hkd]; rfl)
    have HP := Lib.hid hkd
    have HL1 := Lib.hid (show ∀ x ∈ l1, x < 256 from fun x hx => HL.out x (by rw [(kidP_of HL.out hkd).1]; exact List.mem_append_right _ hx))
    clear hkd
    go_wp2_with fail
    refine wp_region_late [some 8, some 9, some 10, some 11, some 12, some 13, some 14, none] (fun _ => 0) (apF w.heap.size q (w.heap.size + 1) 3 30 3 (fun v => #[.bool false, .slice none 0 0, .slice none 0 0, v]) (.slice none 0 0) (.int .i64 k0) (.slice none 0 0) (.slice none 0 0) 0 [] l1) (ApG w w.heap.size q w.heap.size (w.heap.size + 1) 30 #[.bool false, .slice none 0 0, .slice none 0 0, .slice none 0 0] 9 9 (.slice none 0 0) (.slice none 0 0) 0 0 [] [] (Value.ownBlock (.slice none 0 0))) (apH w.heap.size q (w.heap.size + 1) 30 3 (fun v => #[.bool false, .slice none 0 0, .slice none 0 0, v]) (.slice none 0 0) 0 [] l0) (by kernel_rfl) G0.out H0.out rfl (by kernel_rfl) (by kernel_rfl) (by kernel_rfl) (by kernel_rfl) (fun T hT => ?_)
    simp only [List.filterMap_cons, List.filterMap_nil, id, putsS, Act.put, List.setIfInBounds_toArray, List.set_cons_zero, List.set_cons_succ] at hT
    subst hT
    refine ⟨⟨?_, ?_, ?_, ?_, ?_, ?_, ?_, ?_, trivial⟩, ?_⟩
    · -- 0: Op.fieldAddr 25 t3 3
      intro f w1 hG hO hL hF K hK
      clear hF hO hL
      dsimp only at hK ⊢
      go_simp
      exact hK.out _ _ hG rfl (fun _ _ _ h => h) (fun _ _ h => h)
    · -- 1: Op.load 23 t8
      intro f w1 hG hO hL hF K hK
      have l7 : (apH w.heap.size q (w.heap.size + 1) 30 3 (fun v => #[.bool false, .slice none 0 0, .slice none 0 0, v]) (.slice none 0 0) 0 [] l0) 7 w1 := hL 7 (Nat.le_of_ble_eq_true (by kernel_rfl)) (by kernel_rfl)
      have d0 : (apF w.heap.size q (w.heap.size + 1) 3 30 3 (fun v => #[.bool false, .slice none 0 0, .slice none 0 0, v]) (.slice none 0 0) (.int .i64 k0) (.slice none 0 0) (.slice none 0 0) 0 [] l1) 0 (f 8) (f 0) w1 := hF 0 (by kernel_rfl)
      clear hF hO hL
      dsimp only at hK ⊢
      generalize hf8 : f 8 = v8 at *
      subst d0
      have y : w1.cell? ⟨(w.heap.size + 1), 3, none⟩ = some (.slice none 0 0) := Bk.cell l7 3
      go_simp
      exact hK.out _ _ hG rfl (fun _ _ _ h => h) (fun _ _ h => h)
    · -- 2: Op.move t0
      intro f w1 hG hO hL hF K hK
      clear hF hO hL
      dsimp only at hK ⊢
      go_simp
      exact hK.out _ _ hG rfl (fun _ _ _ h => h) (fun _ _ h => h)
    · -- 3: Op.call ( value (Operand.func 61), args := #[t10], argTypes := #[55] )
      intro f w1 hG hO hL hF K hK
      have l3 : (apH w.heap.size q (w.heap.size + 1) 30 3 (fun v => #[.bool false, .slice none 0 0, .slice none 0 0, v]) (.slice none 0 0) 0 [] l0) 3 w1 := hL 3 (Nat.le_of_ble_eq_true (by kernel_rfl)) (by kernel_rfl)
      have d2 : (apF w.heap.size q (w.heap.size + 1) 3 30 3 (fun v => #[.bool false, .slice none 0 0, .slice none 0 0, v]) (.slice none 0 0) (.int .i64 k0) (.slice none 0 0) (.slice none 0 0) 0 [] l1) 2 (f 10) (f 0) w1 := hF 2 (by kernel_rfl)
      clear hF hO hL
      dsimp only at hK ⊢
      generalize hf10 : f 10 = v10 at *
      subst d2
      go_simp
      refine (kid_ok q l0 l1 k0 w1 l3 HL.out HP.out).mono ?_
      rintro e w2' ⟨rfl, hr, hk⟩
      exact hK.out _ _ (hG.call hk) ⟨rfl, hr⟩ (fun j hj _ h => apF_call hk hG.s1 hG.s3 j hj _ _ h) (fun m hm h => apH_call hk hG.s1 hG.s3 m hm h)
    · -- 4: Op.buildSlice 23 1 #[(0, t11)]
      intro f w1 hG hO hL hF K hK
      have d3 : (apF w.heap.size q (w.heap.size + 1) 3 30 3 (fun v => #[.bool false, .slice none 0 0, .slice none 0 0, v]) (.slice none 0 0) (.int .i64 k0) (.slice none 0 0) (.slice none 0 0) 0 [] l1) 3 (f 11) (f 0) w1 := hF 3 (by kernel_rfl)
      clear hF hO hL
      dsimp only at hK ⊢
      generalize hf11 : f 11 = v11 at *
      obtain ⟨rfl, _⟩ := d3
      go_simp
      exact hK.out _ _ (hG.next ((Below.refl _ _).alloc (Nat.le_refl _) _)) ⟨w1.heap.size, rfl, hG.big, (by have := hG.lt3; omega), (fun e => absurd (hG.kl _ e).2 (Nat.lt_irrefl _)), Bk.new w1 _ _⟩ (fun j _ _ h => apF_bel ((Below.refl _ _).alloc (Nat.le_refl _) _) j _ _ h) (fun m _ h => apH_bel ((Below.refl _ _).alloc (Nat.le_refl _) _) m h)
    · -- 5: Op.call ( builtin append, args := #[t9, t12], argTypes := #[23, 23] )
      intro f w1 hG hO hL hF K hK
      have l5 : (apH w.heap.size q (w.heap.size + 1) 30 3 (fun v => #[.bool false, .slice none 0 0, .slice none 0 0, v]) (.slice none 0 0) 0 [] l0) 5 w1 := hL 5 (Nat.le_of_ble_eq_true (by kernel_rfl)) (by kernel_rfl)
      have l7 : (apH w.heap.size q (w.heap.size + 1) 30 3 (fun v => #[.bool false, .slice none 0 0, .slice none 0 0, v]) (.slice none 0 0) 0 [] l0) 7 w1 := hL 7 (Nat.le_of_ble_eq_true (by kernel_rfl)) (by kernel_rfl)
      have d1 : (apF w.heap.size q (w.heap.size + 1) 3 30 3 (fun v => #[.bool false, .slice none 0 0, .slice none 0 0, v]) (.slice none 0 0) (.int .i64 k0) (.slice none 0 0) (.slice none 0 0) 0 [] l1) 1 (f 9) (f 0) w1 := hF 1 (by kernel_rfl)
      have d4 : (apF w.heap.size q (w.heap.size + 1) 3 30 3 (fun v => #[.bool false, .slice none 0 0, .slice none 0 0, v]) (.slice none 0 0) (.int .i64 k0) (.slice none 0 0) (.slice none 0 0) 0 [] l1) 4 (f 12) (f 0) w1 := hF 4 (by kernel_rfl)
      clear hF hO hL
      dsimp only at hK ⊢
      generalize hf9 : f 9 = v9 at *
      generalize hf12 : f 12 = v12 at *
      have d1 : v9 = (.slice none 0 0) := d1
      subst d1
      obtain ⟨g, rfl, h0, h1, h2, h3⟩ := d4
      have hcb : ∀ j u, [(.int .i64 k0)][j]? = some u → w1.cell? ((⟨g, 0, none⟩ : Addr).add j) = some u := fun j u hu => by
        rw [show ((⟨g, 0, none⟩ : Addr).add j) = ⟨g, j, none⟩ by unfold Addr.add; split <;> simp_all, h3.cell j]; simpa using hu
      obtain ⟨v', w2', hrun, hown, hgr, _, hat⟩ := run_append_own_at (P := Try.prog) (w := w1) w.heap.size 28 28 3 j0 _ 1 8 Try.underlying28 hj0 hj1 hj2 hj3 rfl (by decide) (.slice none 0 0) 0 [] l5 ⟨g, 0, none⟩ 1 1 [(.int .i64 k0)] rfl hcb (by intro u hu; simp only [List.mem_singleton] at hu; subst hu; rfl) (by simp only [maxLen]; omega) (by omega) hG.big
      have ap1 : Apart v' (.slice none 0 0) := fun b hb hb2 => by
        rcases hat with h | h
        · exact (apart_nil _) b (h ▸ hb) hb2
        · rw [h] at hb
          injection hb with hb
          subst hb
          exact absurd (own_ge hG.o1 hb2).2 (Nat.lt_irrefl _)
      have ap2 : Apart v' (.slice none 0 0) := fun b hb hb2 => by
        rcases hat with h | h
        · exact (apart_nil _) b (h ▸ hb) hb2
        · rw [h] at hb
          injection hb with hb
          subst hb
          exact absurd (own_ge hG.o2 hb2).2 (Nat.lt_irrefl _)
      have kn : ∀ {u : Value}, Apart (.slice none 0 0) u → (Value.ownBlock (.slice none 0 0) = none ∨ u.ownBlock ≠ Value.ownBlock (.slice none 0 0)) := fun {u} ha => by
        cases hK : Value.ownBlock (.slice none 0 0) with
        | none => exact Or.inl rfl
        | some b => exact Or.inr (ha b hK)
      have nk3 : Value.ownBlock (.slice none 0 0) ≠ some (w.heap.size + 1) := own_tyne l5 l7 (by decide)
      have nk2 : Value.ownBlock (.slice none 0 0) ≠ some w.heap.size := own_tyne l5 hG.res (by decide)
      refine Lib.wp_append_run w1 _ _ _ _ rfl _ _ rfl rfl _ w2' hrun (hK.out v' w2' (hG.app hgr nk2 (kn (apart_nil _)) (kn (apart_nil _))) ⟨hown, ap1, ap2⟩ ?_ (fun m hm h => apH_app hgr hG.s1 (fun b e => (hG.kl b e).1) nk3 m hm h))
      intro j hj hdep h
      by_cases h7 : j = 7
      · subst h7
        exact absurd hdep (by rw [show depS _ 7 5 = true by kernel_rfl]; decide)
      · exact apF_app rfl hgr hG.s1 (fun b e => (hG.kl b e).1) j hj h7 _ _ h
    · -- 6: Op.fieldAddr 25 t3 3
      intro f w1 hG hO hL hF K hK
      clear hF hO hL
      dsimp only at hK ⊢
      go_simp
      exact hK.out _ _ hG rfl (fun _ _ _ h => h) (fun _ _ h => h)
    · -- 7: Op.store 23 t14 t13
      intro f w1 hG hO hL hF K hK
      have l7 : (apH w.heap.size q (w.heap.size + 1) 30 3 (fun v => #[.bool false, .slice none 0 0, .slice none 0 0, v]) (.slice none 0 0) 0 [] l0) 7 w1 := hL 7 (Nat.le_of_ble_eq_true (by kernel_rfl)) (by kernel_rfl)
      have d6 : (apF w.heap.size q (w.heap.size + 1) 3 30 3 (fun v => #[.bool false, .slice none 0 0, .slice none 0 0, v]) (.slice none 0 0) (.int .i64 k0) (.slice none 0 0) (.slice none 0 0) 0 [] l1) 6 (f 14) (f 0) w1 := hF 6 (by kernel_rfl)
      have d5 : (apF w.heap.size q (w.heap.size + 1) 3 30 3 (fun v => #[.bool false, .slice none 0 0, .slice none 0 0, v]) (.slice none 0 0) (.int .i64 k0) (.slice none 0 0) (.slice none 0 0) 0 [] l1) 5 (f 13) (f 0) w1 := hF 5 (by kernel_rfl)
      clear hF hO hL
      dsimp only at hK ⊢
      generalize hf14 : f 14 = v14 at *
      generalize hf13 : f 13 = v13 at *
      subst d6
      have hd5 : w1.ownsRow w.heap.size 3 1 v13 (0 + 1) ([] ++ [(.int .i64 k0)]) ∧ Apart v13 (.slice none 0 0) ∧ Apart v13 (.slice none 0 0) := d5
      clear d5
      obtain ⟨A5, c5, rfl, _, _⟩ := own_shape hd5.1
      have hl7 : Bk w1 (w.heap.size + 1) 30 #[.bool false, .slice none 0 0, .slice none 0 0, (.slice none 0 0)] := l7
      have y0 : w1.cell? ⟨(w.heap.size + 1), 3, none⟩ = some (.slice none 0 0) := Bk.cell hl7 3
      have f0 := Bk.frozen hl7 3
      have HD5 := Lib.hid hd5
      have HL7 := Lib.hid hl7
      have HG := Lib.hid hG
      clear hd5 hl7 l7 hG
      go_simp
      refine hK.out undef _ (HG.out.set HL7.out (by decide) (by decide) 3 (.slice A5 (0 + 1) c5)) ⟨_, HL7.out.put 3 (.slice A5 (0 + 1) c5), own_st HD5.out.1 (Kept1.set w1 (w.heap.size + 1) 3 _) (own_tyne HD5.out.1 HL7.out (by decide)), HD5.out.2⟩ (fun j hj _ h => apF_set HL7.out (by decide) HG.out.s1 HG.out.s3 3 _ j hj _ _ h) (fun m hm h => apH_set HL7.out (by decide) HG.out.s1 HG.out.s3 3 _ m hm h)
    intro f w6 hG hF
    obtain ⟨V', g1, g2', g3', g4'⟩ : apF w.heap.size q (w.heap.size + 1) 3 30 3 (fun v => #[.bool false, .slice none 0 0, .slice none 0 0, v]) (.slice none 0 0) (.int .i64 k0) (.slice none 0 0) (.slice none 0 0) 0 [] l1 7 undef undef w6 := hF 7 (by decide)
    have f3 : apF w.heap.size q (w.heap.size + 1) 3 30 3 (fun v => #[.bool false, .slice none 0 0, .slice none 0 0, v]) (.slice none 0 0) (.int .i64 k0) (.slice none 0 0) (.slice none 0 0) 0 [] l1 3 (f 11) (f 0) w6 := hF 3 (by decide)
    have HG := Lib.hid hG
    have HV1 := Lib.hid g1
    have HV2 := Lib.hid g2'
    have HV3 := Lib.hid g3'
    have HV4 := Lib.hid g4'
    have HRd := Lib.hid f3.2
    clear hF hG g1 g2' g3' g4' f3
    dsimp only
    generalize f 8 = v8
    generalize f 9 = v9
    generalize f 10 = v10
    generalize f 11 = v11
    generalize f 12 = v12
    generalize f 13 = v13
    generalize f 14 = v14
    obtain ⟨A3, c3, rfl, hc3, _⟩ := own_shape HV2.out
    have HS0 := Lib.hid (show BrP w q c k0 l1 0 w6 from ⟨[], [], l1, .slice none 0 0, _, ⟨HG.out.kq, HRd.out, HG.out.res, HV1.out, World.ownsRow_nil _ _ _ _, HV2.out, nil_apart _⟩, HL1.out, by
      rw [Nat.sub_zero]
      cases branchP c l1 <;> rfl⟩)
    clear HG HV1 HV2 HV3 HV4 HRd G0 H0
    go_wp2_with fail
    go_loopw [16] (fun i wr => ∃ k : Nat, k ≤ c ∧ i = .int .i64 k ∧ BrP w q c k0 l1 k wr) (fun i _ => c - (intOf i).toNat)
    case atStart => exact ⟨0, by omega, rfl, HS0.out⟩
    case round =>
      clear HS0 HL1 HL HP
      obtain ⟨k, hk, rfl, ks, cs, l, K, C, hS, hlt, hP⟩ := hrel
      obtain ⟨Ak, ck, rfl, hck, hsk⟩ := own_shape hS.ok
      obtain ⟨Ac, cc, rfl, hcc, hsc⟩ := own_shape hS.oc
      by_cases hkc : k < c
      · have hkI : (k : Int) < (c : Int) := by omega
        have hB : w.heap.size ≤ wr.heap.size := hS.kq.kept.size
        have HL := Lib.hid hlt
        have HAP := Lib.hid hS.ap
        have hstep : branchP (c - k) l = (txtP l).bind fun a => (kidP a.2).bind fun b => (branchP (c - (k + 1)) b.2).map fun r => (a.1 :: r.1, b.1 :: r.2.1, r.2.2) := by
          rw [show c - k = (c - (k + 1)) + 1 by omega]; rfl
        rw [hstep] at hP
        have G0 := Lib.hid (show ApG w w.heap.size q w.heap.size (w.heap.size + 1) 30 #[.bool false, .slice none 0 0, .slice none 0 0, .slice none 0 0] 3 9 (.slice Ac (k + 1) cc) (.slice none 0 0) (k + 1) 0 (intV (k0 :: cs)) [] (Value.ownBlock (.slice Ak k ck)) wr.drew from
          ⟨hS.kq.drewN 1, hS.nd.lt, hS.res, own_belS hS.oc (Below.refl _ _).drew, World.ownsRow_nil _ _ _ _, fun b e => own_ge hS.ok e, hq, Nat.le_refl _, by omega, by omega, rfl⟩)
        have H0 := Lib.hid (show ∀ m, m < 8 → apH w.heap.size q (w.heap.size + 1) 30 9 (fun v => #[.bool false, v, .slice none 0 0, (.slice Ac (k + 1) cc)]) (.slice Ak k ck) k (strV ks) l m wr.drew from fun m _ => by
          unfold apH
          split
          · exact hS.rd
          · exact own_belS hS.ok (Below.refl _ _).drew
          · exact hS.nd
          · trivial)
        clear hS hlt hsk hsc hstep
        cases htx : txtP l with
        | none =>
          rw [htx] at hP
          have HPost := Lib.hid (show ∀ w', KQ q w w' → RdPost w.heap.size w q PB (.panicked brokenE) w' from fun w' hk => ⟨hk, by rw [HPC.out, hP]; rfl⟩)
          have HP := Lib.hid htx
          clear hP htx
          go_wp2_with fail
          refine wp_region_late [some 18, some 19, some 20, some 21, some 22, some 23, some 24, none] (fun _ => 0) (apN q (w.heap.size + 1) 1 (.slice Ak k ck)) (ApG w w.heap.size q w.heap.size (w.heap.size + 1) 30 #[.bool false, .slice none 0 0, .slice none 0 0, .slice none 0 0] 3 9 (.slice Ac (k + 1) cc) (.slice none 0 0) (k + 1) 0 (intV (k0 :: cs)) [] (Value.ownBlock (.slice Ak k ck))) (apH w.heap.size q (w.heap.size + 1) 30 9 (fun v => #[.bool false, v, .slice none 0 0, (.slice Ac (k + 1) cc)]) (.slice Ak k ck) k (strV ks) l) (by kernel_rfl) G0.out H0.out rfl (by kernel_rfl) (by kernel_rfl) (by kernel_rfl) (by kernel_rfl) (fun T hT => ?_)
          simp only [List.filterMap_cons, List.filterMap_nil, id, putsS, Act.put, List.setIfInBounds_toArray, List.set_cons_zero, List.set_cons_succ] at hT
          subst hT
          refine ⟨⟨?_, ?_, ?_, ?_, ?_, ?_, ?_, ?_, trivial⟩, ?_⟩
          · -- 0: Op.fieldAddr 25 t3 1
            intro f w1 hG hO hL hF K hK
            clear hF hO hL
            dsimp only at hK ⊢
            go_simp
            exact hK.out _ _ hG rfl (fun _ _ _ h => h) (fun _ _ h => h)
          · -- 1: Op.load 22 t18
            intro f w1 hG hO hL hF K hK
            have l7 : (apH w.heap.size q (w.heap.size + 1) 30 9 (fun v => #[.bool false, v, .slice none 0 0, (.slice Ac (k + 1) cc)]) (.slice Ak k ck) k (strV ks) l) 7 w1 := hL 7 (Nat.le_of_ble_eq_true (by kernel_rfl)) (by kernel_rfl)
            have d0 : (apN q (w.heap.size + 1) 1 (.slice Ak k ck)) 0 (f 18) (f 0) w1 := hF 0 (by kernel_rfl)
            clear hF hO hL
            dsimp only at hK ⊢
            generalize hf18 : f 18 = v18 at *
            subst d0
            have y : w1.cell? ⟨(w.heap.size + 1), 1, none⟩ = some (.slice Ak k ck) := Bk.cell l7 1
            go_simp
            exact hK.out _ _ hG rfl (fun _ _ _ h => h) (fun _ _ h => h)
          · -- 2: Op.move t0
            intro f w1 hG hO hL hF K hK
            clear hF hO hL
            dsimp only at hK ⊢
            go_simp
            exact hK.out _ _ hG rfl (fun _ _ _ h => h) (fun _ _ h => h)
          · -- 3: Op.call ( value (Operand.func 60), args := #[t20], argTypes := #[55] )
            intro f w1 hG hO hL hF K hK
            have l3 : (apH w.heap.size q (w.heap.size + 1) 30 9 (fun v => #[.bool false, v, .slice none 0 0, (.slice Ac (k + 1) cc)]) (.slice Ak k ck) k (strV ks) l) 3 w1 := hL 3 (Nat.le_of_ble_eq_true (by kernel_rfl)) (by kernel_rfl)
            have d2 : (apN q (w.heap.size + 1) 1 (.slice Ak k ck)) 2 (f 20) (f 0) w1 := hF 2 (by kernel_rfl)
            clear hF hO hL
            dsimp only at hK ⊢
            generalize hf20 : f 20 = v20 at *
            subst d2
            go_simp
            refine (text_no q l w1 l3 HL.out HP.out).mono ?_
            rintro e w2' ⟨rfl, hk⟩
            exact ⟨rfl, HPost.out _ (hG.kq.trans hk)⟩
          · -- 4: Op.buildSlice 22 1 #[(0, t21)]
            intro f w1 hG hO hL hF K hK
            have d3 : (apN q (w.heap.size + 1) 1 (.slice Ak k ck)) 3 (f 21) (f 0) w1 := hF 3 (by kernel_rfl)
            clear hF hO hL
            dsimp only at hK ⊢
            generalize hf21 : f 21 = v21 at *
            exact False.elim d3
          · -- 5: Op.call ( builtin append, args := #[t19, t22], argTypes := #[22, 22] )
            intro f w1 hG hO hL hF K hK
            have d1 : (apN q (w.heap.size + 1) 1 (.slice Ak k ck)) 1 (f 19) (f 0) w1 := hF 1 (by kernel_rfl)
            have d4 : (apN q (w.heap.size + 1) 1 (.slice Ak k ck)) 4 (f 22) (f 0) w1 := hF 4 (by kernel_rfl)
            clear hF hO hL
            dsimp only at hK ⊢
            generalize hf19 : f 19 = v19 at *
            generalize hf22 : f 22 = v22 at *
            exact False.elim d4
          · -- 6: Op.fieldAddr 25 t3 1
            intro f w1 hG hO hL hF K hK
            clear hF hO hL
            dsimp only at hK ⊢
            go_simp
            exact hK.out _ _ hG rfl (fun _ _ _ h => h) (fun _ _ h => h)
          · -- 7: Op.store 22 t24 t23
            intro f w1 hG hO hL hF K hK
            have d6 : (apN q (w.heap.size + 1) 1 (.slice Ak k ck)) 6 (f 24) (f 0) w1 := hF 6 (by kernel_rfl)
            have d5 : (apN q (w.heap.size + 1) 1 (.slice Ak k ck)) 5 (f 23) (f 0) w1 := hF 5 (by kernel_rfl)
            clear hF hO hL
            dsimp only at hK ⊢
            generalize hf24 : f 24 = v24 at *
            generalize hf23 : f 23 = v23 at *
            exact False.elim d5
          intro f w6 hG hF
          have f3 : False := hF 3 (by decide)
          exact f3.elim
        | some a =>
          obtain ⟨s, l2⟩ := a
          rw [htx] at hP
          have HP := Lib.hid htx
          have hl2 : ∀ x ∈ l2, x < 256 := fun x hx => HL.out x (by rw [(txtP_of HL.out htx).1]; exact List.mem_append_right _ hx)
          have HL2 := Lib.hid hl2
          have HPP := Lib.hid hP
          clear hP htx hl2
          go_wp2_with fail
          refine wp_region_late [some 18, some 19, some 20, some 21, some 22, some 23, some 24, none] (fun _ => 0) (apF w.heap.size q (w.heap.size + 1) 1 30 9 (fun v => #[.bool false, v, .slice none 0 0, (.slice Ac (k + 1) cc)]) (.slice Ak k ck) (.string s) (.slice Ac (k + 1) cc) (.slice none 0 0) k (strV ks) l2) (ApG w w.heap.size q w.heap.size (w.heap.size + 1) 30 #[.bool false, .slice none 0 0, .slice none 0 0, .slice none 0 0] 3 9 (.slice Ac (k + 1) cc) (.slice none 0 0) (k + 1) 0 (intV (k0 :: cs)) [] (Value.ownBlock (.slice Ak k ck))) (apH w.heap.size q (w.heap.size + 1) 30 9 (fun v => #[.bool false, v, .slice none 0 0, (.slice Ac (k + 1) cc)]) (.slice Ak k ck) k (strV ks) l) (by kernel_rfl) G0.out H0.out rfl (by kernel_rfl) (by kernel_rfl) (by kernel_rfl) (by kernel_rfl) (fun T hT => ?_)
          simp only [List.filterMap_cons, List.filterMap_nil, id, putsS, Act.put, List.setIfInBounds_toArray, List.set_cons_zero, List.set_cons_succ] at hT
          subst hT
          refine ⟨⟨?_, ?_, ?_, ?_, ?_, ?_, ?_, ?_, trivial⟩, ?_⟩
          · -- 0: Op.fieldAddr 25 t3 1
            intro f w1 hG hO hL hF K hK
            clear hF hO hL
            dsimp only at hK ⊢
            go_simp
            exact hK.out _ _ hG rfl (fun _ _ _ h => h) (fun _ _ h => h)
          · -- 1: Op.load 22 t18
            intro f w1 hG hO hL hF K hK
            have l7 : (apH w.heap.size q (w.heap.size + 1) 30 9 (fun v => #[.bool false, v, .slice none 0 0, (.slice Ac (k + 1) cc)]) (.slice Ak k ck) k (strV ks) l) 7 w1 := hL 7 (Nat.le_of_ble_eq_true (by kernel_rfl)) (by kernel_rfl)
            have d0 : (apF w.heap.size q (w.heap.size + 1) 1 30 9 (fun v => #[.bool false, v, .slice none 0 0, (.slice Ac (k + 1) cc)]) (.slice Ak k ck) (.string s) (.slice Ac (k + 1) cc) (.slice none 0 0) k (strV ks) l2) 0 (f 18) (f 0) w1 := hF 0 (by kernel_rfl)
            clear hF hO hL
            dsimp only at hK ⊢
            generalize hf18 : f 18 = v18 at *
            subst d0
            have y : w1.cell? ⟨(w.heap.size + 1), 1, none⟩ = some (.slice Ak k ck) := Bk.cell l7 1
            go_simp
            exact hK.out _ _ hG rfl (fun _ _ _ h => h) (fun _ _ h => h)
          · -- 2: Op.move t0
            intro f w1 hG hO hL hF K hK
            clear hF hO hL
            dsimp only at hK ⊢
            go_simp
            exact hK.out _ _ hG rfl (fun _ _ _ h => h) (fun _ _ h => h)
          · -- 3: Op.call ( value (Operand.func 60), args := #[t20], argTypes := #[55] )
            intro f w1 hG hO hL hF K hK
            have l3 : (apH w.heap.size q (w.heap.size + 1) 30 9 (fun v => #[.bool false, v, .slice none 0 0, (.slice Ac (k + 1) cc)]) (.slice Ak k ck) k (strV ks) l) 3 w1 := hL 3 (Nat.le_of_ble_eq_true (by kernel_rfl)) (by kernel_rfl)
            have d2 : (apF w.heap.size q (w.heap.size + 1) 1 30 9 (fun v => #[.bool false, v, .slice none 0 0, (.slice Ac (k + 1) cc)]) (.slice Ak k ck) (.string s) (.slice Ac (k + 1) cc) (.slice none 0 0) k (strV ks) l2) 2 (f 20) (f 0) w1 := hF 2 (by kernel_rfl)
            clear hF hO hL
            dsimp only at hK ⊢
            generalize hf20 : f 20 = v20 at *
            subst d2
            go_simp
            refine (text_ok q l l2 s w1 l3 HL.out HP.out).mono ?_
            rintro e w2' ⟨rfl, hr, hk⟩
            exact hK.out _ _ (hG.call hk) ⟨rfl, hr⟩ (fun j hj _ h => apF_call hk hG.s1 hG.s3 j hj _ _ h) (fun m hm h => apH_call hk hG.s1 hG.s3 m hm h)
          · -- 4: Op.buildSlice 22 1 #[(0, t21)]
            intro f w1 hG hO hL hF K hK
            have d3 : (apF w.heap.size q (w.heap.size + 1) 1 30 9 (fun v => #[.bool false, v, .slice none 0 0, (.slice Ac (k + 1) cc)]) (.slice Ak k ck) (.string s) (.slice Ac (k + 1) cc) (.slice none 0 0) k (strV ks) l2) 3 (f 21) (f 0) w1 := hF 3 (by kernel_rfl)
            clear hF hO hL
            dsimp only at hK ⊢
            generalize hf21 : f 21 = v21 at *
            obtain ⟨rfl, _⟩ := d3
            go_simp
            exact hK.out _ _ (hG.next ((Below.refl _ _).alloc (Nat.le_refl _) _)) ⟨w1.heap.size, rfl, hG.big, (by have := hG.lt3; omega), (fun e => absurd (hG.kl _ e).2 (Nat.lt_irrefl _)), Bk.new w1 _ _⟩ (fun j _ _ h => apF_bel ((Below.refl _ _).alloc (Nat.le_refl _) _) j _ _ h) (fun m _ h => apH_bel ((Below.refl _ _).alloc (Nat.le_refl _) _) m h)
          · -- 5: Op.call ( builtin append, args := #[t19, t22], argTypes := #[22, 22] )
            intro f w1 hG hO hL hF K hK
            have l5 : (apH w.heap.size q (w.heap.size + 1) 30 9 (fun v => #[.bool false, v, .slice none 0 0, (.slice Ac (k + 1) cc)]) (.slice Ak k ck) k (strV ks) l) 5 w1 := hL 5 (Nat.le_of_ble_eq_true (by kernel_rfl)) (by kernel_rfl)
            have l7 : (apH w.heap.size q (w.heap.size + 1) 30 9 (fun v => #[.bool false, v, .slice none 0 0, (.slice Ac (k + 1) cc)]) (.slice Ak k ck) k (strV ks) l) 7 w1 := hL 7 (Nat.le_of_ble_eq_true (by kernel_rfl)) (by kernel_rfl)
            have d1 : (apF w.heap.size q (w.heap.size + 1) 1 30 9 (fun v => #[.bool false, v, .slice none 0 0, (.slice Ac (k + 1) cc)]) (.slice Ak k ck) (.string s) (.slice Ac (k + 1) cc) (.slice none 0 0) k (strV ks) l2) 1 (f 19) (f 0) w1 := hF 1 (by kernel_rfl)
            have d4 : (apF w.heap.size q (w.heap.size + 1) 1 30 9 (fun v => #[.bool false, v, .slice none 0 0, (.slice Ac (k + 1) cc)]) (.slice Ak k ck) (.string s) (.slice Ac (k + 1) cc) (.slice none 0 0) k (strV ks) l2) 4 (f 22) (f 0) w1 := hF 4 (by kernel_rfl)
            clear hF hO hL
            dsimp only at hK ⊢
            generalize hf19 : f 19 = v19 at *
            generalize hf22 : f 22 = v22 at *
            have d1 : v19 = (.slice Ak k ck) := d1
            subst d1
            obtain ⟨g, rfl, h0, h1, h2, h3⟩ := d4
            have hcb : ∀ j u, [(.string s)][j]? = some u → w1.cell? ((⟨g, 0, none⟩ : Addr).add j) = some u := fun j u hu => by
              rw [show ((⟨g, 0, none⟩ : Addr).add j) = ⟨g, j, none⟩ by unfold Addr.add; split <;> simp_all, h3.cell j]; simpa using hu
            obtain ⟨v', w2', hrun, hown, hgr, _, hat⟩ := run_append_own_at (P := Try.prog) (w := w1) w.heap.size 27 27 9 i0 _ 1 16 Try.underlying27 hi0 hz0 hz1 hz2 rfl (by decide) (.slice Ak k ck) k (strV ks) l5 ⟨g, 0, none⟩ 1 1 [(.string s)] rfl hcb (by intro u hu; simp only [List.mem_singleton] at hu; subst hu; rfl) (by simp only [maxLen]; omega) (by omega) hG.big
            have ap1 : Apart v' (.slice Ac (k + 1) cc) := fun b hb hb2 => by
              rcases hat with h | h
              · exact HAP.out b (h ▸ hb) hb2
              · rw [h] at hb
                injection hb with hb
                subst hb
                exact absurd (own_ge hG.o1 hb2).2 (Nat.lt_irrefl _)
            have ap2 : Apart v' (.slice none 0 0) := fun b hb hb2 => by
              rcases hat with h | h
              · exact (apart_nil _) b (h ▸ hb) hb2
              · rw [h] at hb
                injection hb with hb
                subst hb
                exact absurd (own_ge hG.o2 hb2).2 (Nat.lt_irrefl _)
            have kn : ∀ {u : Value}, Apart (.slice Ak k ck) u → (Value.ownBlock (.slice Ak k ck) = none ∨ u.ownBlock ≠ Value.ownBlock (.slice Ak k ck)) := fun {u} ha => by
              cases hK : Value.ownBlock (.slice Ak k ck) with
              | none => exact Or.inl rfl
              | some b => exact Or.inr (ha b hK)
            have nk3 : Value.ownBlock (.slice Ak k ck) ≠ some (w.heap.size + 1) := own_tyne l5 l7 (by decide)
            have nk2 : Value.ownBlock (.slice Ak k ck) ≠ some w.heap.size := own_tyne l5 hG.res (by decide)
            refine Lib.wp_append_run w1 _ _ _ _ rfl _ _ rfl rfl _ w2' hrun (hK.out v' w2' (hG.app hgr nk2 (kn HAP.out) (kn (apart_nil _))) ⟨hown, ap1, ap2⟩ ?_ (fun m hm h => apH_app hgr hG.s1 (fun b e => (hG.kl b e).1) nk3 m hm h))
            intro j hj hdep h
            by_cases h7 : j = 7
            · subst h7
              exact absurd hdep (by rw [show depS _ 7 5 = true by kernel_rfl]; decide)
            · exact apF_app rfl hgr hG.s1 (fun b e => (hG.kl b e).1) j hj h7 _ _ h
          · -- 6: Op.fieldAddr 25 t3 1
            intro f w1 hG hO hL hF K hK
            clear hF hO hL
            dsimp only at hK ⊢
            go_simp
            exact hK.out _ _ hG rfl (fun _ _ _ h => h) (fun _ _ h => h)
          · -- 7: Op.store 22 t24 t23
            intro f w1 hG hO hL hF K hK
            have l7 : (apH w.heap.size q (w.heap.size + 1) 30 9 (fun v => #[.bool false, v, .slice none 0 0, (.slice Ac (k + 1) cc)]) (.slice Ak k ck) k (strV ks) l) 7 w1 := hL 7 (Nat.le_of_ble_eq_true (by kernel_rfl)) (by kernel_rfl)
            have d6 : (apF w.heap.size q (w.heap.size + 1) 1 30 9 (fun v => #[.bool false, v, .slice none 0 0, (.slice Ac (k + 1) cc)]) (.slice Ak k ck) (.string s) (.slice Ac (k + 1) cc) (.slice none 0 0) k (strV ks) l2) 6 (f 24) (f 0) w1 := hF 6 (by kernel_rfl)
            have d5 : (apF w.heap.size q (w.heap.size + 1) 1 30 9 (fun v => #[.bool false, v, .slice none 0 0, (.slice Ac (k + 1) cc)]) (.slice Ak k ck) (.string s) (.slice Ac (k + 1) cc) (.slice none 0 0) k (strV ks) l2) 5 (f 23) (f 0) w1 := hF 5 (by kernel_rfl)
            clear hF hO hL
            dsimp only at hK ⊢
            generalize hf24 : f 24 = v24 at *
            generalize hf23 : f 23 = v23 at *
            subst d6
            have hd5 : w1.ownsRow w.heap.size 9 1 v23 (k + 1) ((strV ks) ++ [(.string s)]) ∧ Apart v23 (.slice Ac (k + 1) cc) ∧ Apart v23 (.slice none 0 0) := d5
            clear d5
            obtain ⟨A5, c5, rfl, _, _⟩ := own_shape hd5.1
            have hl7 : Bk w1 (w.heap.size + 1) 30 #[.bool false, (.slice Ak k ck), .slice none 0 0, (.slice Ac (k + 1) cc)] := l7
            have y0 : w1.cell? ⟨(w.heap.size + 1), 1, none⟩ = some (.slice Ak k ck) := Bk.cell hl7 1
            have f0 := Bk.frozen hl7 1
            have HD5 := Lib.hid hd5
            have HL7 := Lib.hid hl7
            have HG := Lib.hid hG
            clear hd5 hl7 l7 hG
            go_simp
            refine hK.out undef _ (HG.out.set HL7.out (by decide) (by decide) 1 (.slice A5 (k + 1) c5)) ⟨_, HL7.out.put 1 (.slice A5 (k + 1) c5), own_st HD5.out.1 (Kept1.set w1 (w.heap.size + 1) 1 _) (own_tyne HD5.out.1 HL7.out (by decide)), HD5.out.2⟩ (fun j hj _ h => apF_set HL7.out (by decide) HG.out.s1 HG.out.s3 1 _ j hj _ _ h) (fun m hm h => apH_set HL7.out (by decide) HG.out.s1 HG.out.s3 1 _ m hm h)
          intro f w6 hG hF
          obtain ⟨V', g1, g2', g3', g4'⟩ : apF w.heap.size q (w.heap.size + 1) 1 30 9 (fun v => #[.bool false, v, .slice none 0 0, (.slice Ac (k + 1) cc)]) (.slice Ak k ck) (.string s) (.slice Ac (k + 1) cc) (.slice none 0 0) k (strV ks) l2 7 undef undef w6 := hF 7 (by decide)
          have f3 : apF w.heap.size q (w.heap.size + 1) 1 30 9 (fun v => #[.bool false, v, .slice none 0 0, (.slice Ac (k + 1) cc)]) (.slice Ak k ck) (.string s) (.slice Ac (k + 1) cc) (.slice none 0 0) k (strV ks) l2 3 (f 21) (f 0) w6 := hF 3 (by decide)
          have HG := Lib.hid hG
          have HV1 := Lib.hid g1
          have HV2 := Lib.hid g2'
          have HV3 := Lib.hid g3'
          have HV4 := Lib.hid g4'
          have HRd := Lib.hid f3.2
          clear hF hG g1 g2' g3' g4' f3
          dsimp only
          generalize f 18 = v18
          generalize f 19 = v19
          generalize f 20 = v20
          generalize f 21 = v21
          generalize f 22 = v22
          generalize f 23 = v23
          generalize f 24 = v24
          obtain ⟨A4, c4, rfl, hc4, _⟩ := own_shape HV2.out
          have G1 := Lib.hid (show ApG w w.heap.size q w.heap.size (w.heap.size + 1) 30 #[.bool false, .slice none 0 0, .slice none 0 0, .slice none 0 0] 9 9 (.slice A4 (k + 1) c4) (.slice none 0 0) (k + 1) 0 (strV ks ++ [.string s]) [] (Value.ownBlock (.slice Ac (k + 1) cc)) w6.drew from
            ⟨HG.out.kq.drewN 1, HG.out.lt3, HG.out.res, own_belS HV2.out (Below.refl _ _).drew, World.ownsRow_nil _ _ _ _, fun b e => own_ge HG.out.o1 e, hq, Nat.le_refl _, by omega, by omega, rfl⟩)
          have H1 := Lib.hid (show ∀ m, m < 8 → apH w.heap.size q (w.heap.size + 1) 30 3 (fun v => #[.bool false, .slice A4 (k + 1) c4, .slice none 0 0, v]) (.slice Ac (k + 1) cc) (k + 1) (intV (k0 :: cs)) l2 m w6.drew from fun m _ => by
            unfold apH
            split
            · exact HRd.out
            · exact own_belS HG.out.o1 (Below.refl _ _).drew
            · exact HV1.out
            · trivial)
          have HAP2 := Lib.hid (show Apart (.slice Ac (k + 1) cc) (.slice A4 (k + 1) c4) from HV3.out.symm)
          clear HV1 HV2 HV3 HV4 HRd HG G0 H0
          cases htx : kidP l2 with
          | none =>
            have hP := HPP.out
            rw [Option.bind_some, htx] at hP
            have HPost := Lib.hid (show ∀ w', KQ q w w' → RdPost w.heap.size w q PB (.panicked brokenE) w' from fun w' hk => ⟨hk, by rw [HPC.out, hP]; rfl⟩)
            have HP2 := Lib.hid htx
            clear hP htx HPP
            go_wp2_with fail
            refine wp_region_late [some 25, some 26, some 27, some 28, some 29, some 30, some 31, none] (fun _ => 0) (apN q (w.heap.size + 1) 3 (.slice Ac (k + 1) cc)) (ApG w w.heap.size q w.heap.size (w.heap.size + 1) 30 #[.bool false, .slice none 0 0, .slice none 0 0, .slice none 0 0] 9 9 (.slice A4 (k + 1) c4) (.slice none 0 0) (k + 1) 0 (strV ks ++ [.string s]) [] (Value.ownBlock (.slice Ac (k + 1) cc))) (apH w.heap.size q (w.heap.size + 1) 30 3 (fun v => #[.bool false, (.slice A4 (k + 1) c4), .slice none 0 0, v]) (.slice Ac (k + 1) cc) (k + 1) (intV (k0 :: cs)) l2) (by kernel_rfl) G1.out H1.out rfl (by kernel_rfl) (by kernel_rfl) (by kernel_rfl) (by kernel_rfl) (fun T hT => ?_)
            simp only [List.filterMap_cons, List.filterMap_nil, id, putsS, Act.put, List.setIfInBounds_toArray, List.set_cons_zero, List.set_cons_succ] at hT
            subst hT
            refine ⟨⟨?_, ?_, ?_, ?_, ?_, ?_, ?_, ?_, trivial⟩, ?_⟩
            · -- 0: Op.fieldAddr 25 t3 3
              intro f w1 hG hO hL hF K hK
              clear hF hO hL
              dsimp only at hK ⊢
              go_simp
              exact hK.out _ _ hG rfl (fun _ _ _ h => h) (fun _ _ h => h)
            · -- 1: Op.load 23 t25
              intro f w1 hG hO hL hF K hK
              have l7 : (apH w.heap.size q (w.heap.size + 1) 30 3 (fun v => #[.bool false, (.slice A4 (k + 1) c4), .slice none 0 0, v]) (.slice Ac (k + 1) cc) (k + 1) (intV (k0 :: cs)) l2) 7 w1 := hL 7 (Nat.le_of_ble_eq_true (by kernel_rfl)) (by kernel_rfl)
              have d0 : (apN q (w.heap.size + 1) 3 (.slice Ac (k + 1) cc)) 0 (f 25) (f 0) w1 := hF 0 (by kernel_rfl)
              clear hF hO hL
              dsimp only at hK ⊢
              generalize hf25 : f 25 = v25 at *
              subst d0
              have y : w1.cell? ⟨(w.heap.size + 1), 3, none⟩ = some (.slice Ac (k + 1) cc) := Bk.cell l7 3
              go_simp
              exact hK.out _ _ hG rfl (fun _ _ _ h => h) (fun _ _ h => h)
            · -- 2: Op.move t0
              intro f w1 hG hO hL hF K hK
              clear hF hO hL
              dsimp only at hK ⊢
              go_simp
              exact hK.out _ _ hG rfl (fun _ _ _ h => h) (fun _ _ h => h)
            · -- 3: Op.call ( value (Operand.func 61), args := #[t27], argTypes := #[55] )
              intro f w1 hG hO hL hF K hK
              have l3 : (apH w.heap.size q (w.heap.size + 1) 30 3 (fun v => #[.bool false, (.slice A4 (k + 1) c4), .slice none 0 0, v]) (.slice Ac (k + 1) cc) (k + 1) (intV (k0 :: cs)) l2) 3 w1 := hL 3 (Nat.le_of_ble_eq_true (by kernel_rfl)) (by kernel_rfl)
              have d2 : (apN q (w.heap.size + 1) 3 (.slice Ac (k + 1) cc)) 2 (f 27) (f 0) w1 := hF 2 (by kernel_rfl)
              clear hF hO hL
              dsimp only at hK ⊢
              generalize hf27 : f 27 = v27 at *
              subst d2
              go_simp
              refine (kid_no q l2 w1 l3 HL2.out HP2.out).mono ?_
              rintro e w2' ⟨rfl, hk⟩
              exact ⟨rfl, HPost.out _ (hG.kq.trans hk)⟩
            · -- 4: Op.buildSlice 23 1 #[(0, t28)]
              intro f w1 hG hO hL hF K hK
              have d3 : (apN q (w.heap.size + 1) 3 (.slice Ac (k + 1) cc)) 3 (f 28) (f 0) w1 := hF 3 (by kernel_rfl)
              clear hF hO hL
              dsimp only at hK ⊢
              generalize hf28 : f 28 = v28 at *
              exact False.elim d3
            · -- 5: Op.call ( builtin append, args := #[t26, t29], argTypes := #[23, 23] )
              intro f w1 hG hO hL hF K hK
              have d1 : (apN q (w.heap.size + 1) 3 (.slice Ac (k + 1) cc)) 1 (f 26) (f 0) w1 := hF 1 (by kernel_rfl)
              have d4 : (apN q (w.heap.size + 1) 3 (.slice Ac (k + 1) cc)) 4 (f 29) (f 0) w1 := hF 4 (by kernel_rfl)
              clear hF hO hL
              dsimp only at hK ⊢
              generalize hf26 : f 26 = v26 at *
              generalize hf29 : f 29 = v29 at *
              exact False.elim d4
            · -- 6: Op.fieldAddr 25 t3 3
              intro f w1 hG hO hL hF K hK
              clear hF hO hL
              dsimp only at hK ⊢
              go_simp
              exact hK.out _ _ hG rfl (fun _ _ _ h => h) (fun _ _ h => h)
            · -- 7: Op.store 23 t31 t30
              intro f w1 hG hO hL hF K hK
              have d6 : (apN q (w.heap.size + 1) 3 (.slice Ac (k + 1) cc)) 6 (f 31) (f 0) w1 := hF 6 (by kernel_rfl)
              have d5 : (apN q (w.heap.size + 1) 3 (.slice Ac (k + 1) cc)) 5 (f 30) (f 0) w1 := hF 5 (by kernel_rfl)
              clear hF hO hL
              dsimp only at hK ⊢
              generalize hf31 : f 31 = v31 at *
              generalize hf30 : f 30 = v30 at *
              exact False.elim d5
            intro f w6 hG hF
            have f3 : False := hF 3 (by decide)
            exact f3.elim
          | some b =>
            obtain ⟨kk, lz⟩ := b
            have hP := HPP.out
            rw [Option.bind_some, htx, Option.bind_some] at hP
            dsimp only at hP
            have HP2 := Lib.hid htx
            have hl3 : ∀ x ∈ lz, x < 256 := fun x hx => HL2.out x (by rw [(kidP_of HL2.out htx).1]; exact List.mem_append_right _ hx)
            have HL3 := Lib.hid hl3
            have HPQ := Lib.hid (show branchP c l1 = (branchP (c - (k + 1)) lz).map fun r => ((ks ++ [s]) ++ r.1, (cs ++ [kk]) ++ r.2.1, r.2.2) by
              rw [hP, Option.map_map]
              congr 1
              funext r
              simp)
            clear hP htx HPP hl3
            go_wp2_with fail
            refine wp_region_late [some 25, some 26, some 27, some 28, some 29, some 30, some 31, none] (fun _ => 0) (apF w.heap.size q (w.heap.size + 1) 3 30 3 (fun v => #[.bool false, (.slice A4 (k + 1) c4), .slice none 0 0, v]) (.slice Ac (k + 1) cc) (.int .i64 kk) (.slice A4 (k + 1) c4) (.slice none 0 0) (k + 1) (intV (k0 :: cs)) lz) (ApG w w.heap.size q w.heap.size (w.heap.size + 1) 30 #[.bool false, .slice none 0 0, .slice none 0 0, .slice none 0 0] 9 9 (.slice A4 (k + 1) c4) (.slice none 0 0) (k + 1) 0 (strV ks ++ [.string s]) [] (Value.ownBlock (.slice Ac (k + 1) cc))) (apH w.heap.size q (w.heap.size + 1) 30 3 (fun v => #[.bool false, (.slice A4 (k + 1) c4), .slice none 0 0, v]) (.slice Ac (k + 1) cc) (k + 1) (intV (k0 :: cs)) l2) (by kernel_rfl) G1.out H1.out rfl (by kernel_rfl) (by kernel_rfl) (by kernel_rfl) (by kernel_rfl) (fun T hT => ?_)
            simp only [List.filterMap_cons, List.filterMap_nil, id, putsS, Act.put, List.setIfInBounds_toArray, List.set_cons_zero, List.set_cons_succ] at hT
            subst hT
            refine ⟨⟨?_, ?_, ?_, ?_, ?_, ?_, ?_, ?_, trivial⟩, ?_⟩
            · -- 0: Op.fieldAddr 25 t3 3
              intro f w1 hG hO hL hF K hK
              clear hF hO hL
              dsimp only at hK ⊢
              go_simp
              exact hK.out _ _ hG rfl (fun _ _ _ h => h) (fun _ _ h => h)
            · -- 1: Op.load 23 t25
              intro f w1 hG hO hL hF K hK
              have l7 : (apH w.heap.size q (w.heap.size + 1) 30 3 (fun v => #[.bool false, (.slice A4 (k + 1) c4), .slice none 0 0, v]) (.slice Ac (k + 1) cc) (k + 1) (intV (k0 :: cs)) l2) 7 w1 := hL 7 (Nat.le_of_ble_eq_true (by kernel_rfl)) (by kernel_rfl)
              have d0 : (apF w.heap.size q (w.heap.size + 1) 3 30 3 (fun v => #[.bool false, (.slice A4 (k + 1) c4), .slice none 0 0, v]) (.slice Ac (k + 1) cc) (.int .i64 kk) (.slice A4 (k + 1) c4) (.slice none 0 0) (k + 1) (intV (k0 :: cs)) lz) 0 (f 25) (f 0) w1 := hF 0 (by kernel_rfl)
              clear hF hO hL
              dsimp only at hK ⊢
              generalize hf25 : f 25 = v25 at *
              subst d0
              have y : w1.cell? ⟨(w.heap.size + 1), 3, none⟩ = some (.slice Ac (k + 1) cc) := Bk.cell l7 3
              go_simp
              exact hK.out _ _ hG rfl (fun _ _ _ h => h) (fun _ _ h => h)
            · -- 2: Op.move t0
              intro f w1 hG hO hL hF K hK
              clear hF hO hL
              dsimp only at hK ⊢
              go_simp
              exact hK.out _ _ hG rfl (fun _ _ _ h => h) (fun _ _ h => h)
            · -- 3: Op.call ( value (Operand.func 61), args := #[t27], argTypes := #[55] )
              intro f w1 hG hO hL hF K hK
              have l3 : (apH w.heap.size q (w.heap.size + 1) 30 3 (fun v => #[.bool false, (.slice A4 (k + 1) c4), .slice none 0 0, v]) (.slice Ac (k + 1) cc) (k + 1) (intV (k0 :: cs)) l2) 3 w1 := hL 3 (Nat.le_of_ble_eq_true (by kernel_rfl)) (by kernel_rfl)
              have d2 : (apF w.heap.size q (w.heap.size + 1) 3 30 3 (fun v => #[.bool false, (.slice A4 (k + 1) c4), .slice none 0 0, v]) (.slice Ac (k + 1) cc) (.int .i64 kk) (.slice A4 (k + 1) c4) (.slice none 0 0) (k + 1) (intV (k0 :: cs)) lz) 2 (f 27) (f 0) w1 := hF 2 (by kernel_rfl)
              clear hF hO hL
              dsimp only at hK ⊢
              generalize hf27 : f 27 = v27 at *
              subst d2
              go_simp
              refine (kid_ok q l2 lz kk w1 l3 HL2.out HP2.out).mono ?_
              rintro e w2' ⟨rfl, hr, hk⟩
              exact hK.out _ _ (hG.call hk) ⟨rfl, hr⟩ (fun j hj _ h => apF_call hk hG.s1 hG.s3 j hj _ _ h) (fun m hm h => apH_call hk hG.s1 hG.s3 m hm h)
            · -- 4: Op.buildSlice 23 1 #[(0, t28)]
              intro f w1 hG hO hL hF K hK
              have d3 : (apF w.heap.size q (w.heap.size + 1) 3 30 3 (fun v => #[.bool false, (.slice A4 (k + 1) c4), .slice none 0 0, v]) (.slice Ac (k + 1) cc) (.int .i64 kk) (.slice A4 (k + 1) c4) (.slice none 0 0) (k + 1) (intV (k0 :: cs)) lz) 3 (f 28) (f 0) w1 := hF 3 (by kernel_rfl)
              clear hF hO hL
              dsimp only at hK ⊢
              generalize hf28 : f 28 = v28 at *
              obtain ⟨rfl, _⟩ := d3
              go_simp
              exact hK.out _ _ (hG.next ((Below.refl _ _).alloc (Nat.le_refl _) _)) ⟨w1.heap.size, rfl, hG.big, (by have := hG.lt3; omega), (fun e => absurd (hG.kl _ e).2 (Nat.lt_irrefl _)), Bk.new w1 _ _⟩ (fun j _ _ h => apF_bel ((Below.refl _ _).alloc (Nat.le_refl _) _) j _ _ h) (fun m _ h => apH_bel ((Below.refl _ _).alloc (Nat.le_refl _) _) m h)
            · -- 5: Op.call ( builtin append, args := #[t26, t29], argTypes := #[23, 23] )
              intro f w1 hG hO hL hF K hK
              have l5 : (apH w.heap.size q (w.heap.size + 1) 30 3 (fun v => #[.bool false, (.slice A4 (k + 1) c4), .slice none 0 0, v]) (.slice Ac (k + 1) cc) (k + 1) (intV (k0 :: cs)) l2) 5 w1 := hL 5 (Nat.le_of_ble_eq_true (by kernel_rfl)) (by kernel_rfl)
              have l7 : (apH w.heap.size q (w.heap.size + 1) 30 3 (fun v => #[.bool false, (.slice A4 (k + 1) c4), .slice none 0 0, v]) (.slice Ac (k + 1) cc) (k + 1) (intV (k0 :: cs)) l2) 7 w1 := hL 7 (Nat.le_of_ble_eq_true (by kernel_rfl)) (by kernel_rfl)
              have d1 : (apF w.heap.size q (w.heap.size + 1) 3 30 3 (fun v => #[.bool false, (.slice A4 (k + 1) c4), .slice none 0 0, v]) (.slice Ac (k + 1) cc) (.int .i64 kk) (.slice A4 (k + 1) c4) (.slice none 0 0) (k + 1) (intV (k0 :: cs)) lz) 1 (f 26) (f 0) w1 := hF 1 (by kernel_rfl)
              have d4 : (apF w.heap.size q (w.heap.size + 1) 3 30 3 (fun v => #[.bool false, (.slice A4 (k + 1) c4), .slice none 0 0, v]) (.slice Ac (k + 1) cc) (.int .i64 kk) (.slice A4 (k + 1) c4) (.slice none 0 0) (k + 1) (intV (k0 :: cs)) lz) 4 (f 29) (f 0) w1 := hF 4 (by kernel_rfl)
              clear hF hO hL
              dsimp only at hK ⊢
              generalize hf26 : f 26 = v26 at *
              generalize hf29 : f 29 = v29 at *
              have d1 : v26 = (.slice Ac (k + 1) cc) := d1
              subst d1
              obtain ⟨g, rfl, h0, h1, h2, h3⟩ := d4
              have hcb : ∀ j u, [(.int .i64 kk)][j]? = some u → w1.cell? ((⟨g, 0, none⟩ : Addr).add j) = some u := fun j u hu => by
                rw [show ((⟨g, 0, none⟩ : Addr).add j) = ⟨g, j, none⟩ by unfold Addr.add; split <;> simp_all, h3.cell j]; simpa using hu
              obtain ⟨v', w2', hrun, hown, hgr, _, hat⟩ := run_append_own_at (P := Try.prog) (w := w1) w.heap.size 28 28 3 j0 _ 1 8 Try.underlying28 hj0 hj1 hj2 hj3 rfl (by decide) (.slice Ac (k + 1) cc) (k + 1) (intV (k0 :: cs)) l5 ⟨g, 0, none⟩ 1 1 [(.int .i64 kk)] rfl hcb (by intro u hu; simp only [List.mem_singleton] at hu; subst hu; rfl) (by simp only [maxLen]; omega) (by omega) hG.big
              have ap1 : Apart v' (.slice A4 (k + 1) c4) := fun b hb hb2 => by
                rcases hat with h | h
                · exact HAP2.out b (h ▸ hb) hb2
                · rw [h] at hb
                  injection hb with hb
                  subst hb
                  exact absurd (own_ge hG.o1 hb2).2 (Nat.lt_irrefl _)
              have ap2 : Apart v' (.slice none 0 0) := fun b hb hb2 => by
                rcases hat with h | h
                · exact (apart_nil _) b (h ▸ hb) hb2
                · rw [h] at hb
                  injection hb with hb
                  subst hb
                  exact absurd (own_ge hG.o2 hb2).2 (Nat.lt_irrefl _)
              have kn : ∀ {u : Value}, Apart (.slice Ac (k + 1) cc) u → (Value.ownBlock (.slice Ac (k + 1) cc) = none ∨ u.ownBlock ≠ Value.ownBlock (.slice Ac (k + 1) cc)) := fun {u} ha => by
                cases hK : Value.ownBlock (.slice Ac (k + 1) cc) with
                | none => exact Or.inl rfl
                | some b => exact Or.inr (ha b hK)
              have nk3 : Value.ownBlock (.slice Ac (k + 1) cc) ≠ some (w.heap.size + 1) := own_tyne l5 l7 (by decide)
              have nk2 : Value.ownBlock (.slice Ac (k + 1) cc) ≠ some w.heap.size := own_tyne l5 hG.res (by decide)
              refine Lib.wp_append_run w1 _ _ _ _ rfl _ _ rfl rfl _ w2' hrun (hK.out v' w2' (hG.app hgr nk2 (kn HAP2.out) (kn (apart_nil _))) ⟨hown, ap1, ap2⟩ ?_ (fun m hm h => apH_app hgr hG.s1 (fun b e => (hG.kl b e).1) nk3 m hm h))
              intro j hj hdep h
              by_cases h7 : j = 7
              · subst h7
                exact absurd hdep (by rw [show depS _ 7 5 = true by kernel_rfl]; decide)
              · exact apF_app rfl hgr hG.s1 (fun b e => (hG.kl b e).1) j hj h7 _ _ h
            · -- 6: Op.fieldAddr 25 t3 3
              intro f w1 hG hO hL hF K hK
              clear hF hO hL
              dsimp only at hK ⊢
              go_simp
              exact hK.out _ _ hG rfl (fun _ _ _ h => h) (fun _ _ h => h)
            · -- 7: Op.store 23 t31 t30
              intro f w1 hG hO hL hF K hK
              have l7 : (apH w.heap.size q (w.heap.size + 1) 30 3 (fun v => #[.bool false, (.slice A4 (k + 1) c4), .slice none 0 0, v]) (.slice Ac (k + 1) cc) (k + 1) (intV (k0 :: cs)) l2) 7 w1 := hL 7 (Nat.le_of_ble_eq_true (by kernel_rfl)) (by kernel_rfl)
              have d6 : (apF w.heap.size q (w.heap.size + 1) 3 30 3 (fun v => #[.bool false, (.slice A4 (k + 1) c4), .slice none 0 0, v]) (.slice Ac (k + 1) cc) (.int .i64 kk) (.slice A4 (k + 1) c4) (.slice none 0 0) (k + 1) (intV (k0 :: cs)) lz) 6 (f 31) (f 0) w1 := hF 6 (by kernel_rfl)
              have d5 : (apF w.heap.size q (w.heap.size + 1) 3 30 3 (fun v => #[.bool false, (.slice A4 (k + 1) c4), .slice none 0 0, v]) (.slice Ac (k + 1) cc) (.int .i64 kk) (.slice A4 (k + 1) c4) (.slice none 0 0) (k + 1) (intV (k0 :: cs)) lz) 5 (f 30) (f 0) w1 := hF 5 (by kernel_rfl)
              clear hF hO hL
              dsimp only at hK ⊢
              generalize hf31 : f 31 = v31 at *
              generalize hf30 : f 30 = v30 at *
              subst d6
              have hd5 : w1.ownsRow w.heap.size 3 1 v30 ((k + 1) + 1) ((intV (k0 :: cs)) ++ [(.int .i64 kk)]) ∧ Apart v30 (.slice A4 (k + 1) c4) ∧ Apart v30 (.slice none 0 0) := d5
              clear d5
              obtain ⟨A5, c5, rfl, _, _⟩ := own_shape hd5.1
              have hl7 : Bk w1 (w.heap.size + 1) 30 #[.bool false, (.slice A4 (k + 1) c4), .slice none 0 0, (.slice Ac (k + 1) cc)] := l7
              have y0 : w1.cell? ⟨(w.heap.size + 1), 3, none⟩ = some (.slice Ac (k + 1) cc) := Bk.cell hl7 3
              have f0 := Bk.frozen hl7 3
              have HD5 := Lib.hid hd5
              have HL7 := Lib.hid hl7
              have HG := Lib.hid hG
              clear hd5 hl7 l7 hG
              go_simp
              refine hK.out undef _ (HG.out.set HL7.out (by decide) (by decide) 3 (.slice A5 ((k + 1) + 1) c5)) ⟨_, HL7.out.put 3 (.slice A5 ((k + 1) + 1) c5), own_st HD5.out.1 (Kept1.set w1 (w.heap.size + 1) 3 _) (own_tyne HD5.out.1 HL7.out (by decide)), HD5.out.2⟩ (fun j hj _ h => apF_set HL7.out (by decide) HG.out.s1 HG.out.s3 3 _ j hj _ _ h) (fun m hm h => apH_set HL7.out (by decide) HG.out.s1 HG.out.s3 3 _ m hm h)
            intro f w6 hG hF
            obtain ⟨V', g1, g2', g3', g4'⟩ : apF w.heap.size q (w.heap.size + 1) 3 30 3 (fun v => #[.bool false, (.slice A4 (k + 1) c4), .slice none 0 0, v]) (.slice Ac (k + 1) cc) (.int .i64 kk) (.slice A4 (k + 1) c4) (.slice none 0 0) (k + 1) (intV (k0 :: cs)) lz 7 undef undef w6 := hF 7 (by decide)
            have f3 : apF w.heap.size q (w.heap.size + 1) 3 30 3 (fun v => #[.bool false, (.slice A4 (k + 1) c4), .slice none 0 0, v]) (.slice Ac (k + 1) cc) (.int .i64 kk) (.slice A4 (k + 1) c4) (.slice none 0 0) (k + 1) (intV (k0 :: cs)) lz 3 (f 28) (f 0) w6 := hF 3 (by decide)
            have HG := Lib.hid hG
            have HV1 := Lib.hid g1
            have HV2 := Lib.hid g2'
            have HV3 := Lib.hid g3'
            have HV4 := Lib.hid g4'
            have HRd := Lib.hid f3.2
            clear hF hG g1 g2' g3' g4' f3
            dsimp only
            generalize f 25 = v25
            generalize f 26 = v26
            generalize f 27 = v27
            generalize f 28 = v28
            generalize f 29 = v29
            generalize f 30 = v30
            generalize f 31 = v31
            have HNew := Lib.hid (show BrP w q c k0 l1 (k + 1) w6 from ⟨ks ++ [s], cs ++ [kk], lz, _, _, ⟨HG.out.kq, HRd.out, HG.out.res, HV1.out, by rw [← strV_append]; exact HG.out.o1, by rw [← List.cons_append, ← intV_append]; exact HV2.out, HV3.out.symm⟩, HL3.out, HPQ.out⟩)
            clear HG HRd HV1 HV2 HV3 HV4
            go_wp2_with fail
            exact ⟨⟨k + 1, by omega, by go_num, HNew.out⟩, by simp [intOf]; omega⟩
      · obtain rfl : k = c := by omega
        have hkk : ¬ (k : Int) < (k : Int) := by omega
        rw [Nat.sub_self] at hP
        have x0 := hS.nd.cell 0
        have x1 := hS.nd.cell 1
        have x2 := hS.nd.cell 2
        have x3 := hS.nd.cell 3
        simp only [List.getElem?_toArray, List.getElem?_cons_zero, List.getElem?_cons_succ] at x0 x1 x2 x3
        have y0 : wr.cell? ⟨w.heap.size, 0, none⟩ = some (.bool false) := hS.res.cell 0
        have y1 : wr.cell? ⟨w.heap.size, 1, none⟩ = some (.slice none 0 0) := hS.res.cell 1
        have y2 : wr.cell? ⟨w.heap.size, 2, none⟩ = some (.slice none 0 0) := hS.res.cell 2
        have y3 : wr.cell? ⟨w.heap.size, 3, none⟩ = some (.slice none 0 0) := hS.res.cell 3
        have f0 := hS.res.frozen 0
        have f1 := hS.res.frozen 1
        have f2 := hS.res.frozen 2
        have f3 := hS.res.frozen 3
        have SET4 : ∀ w', w' = (((wr.setCell ⟨w.heap.size, 0, none⟩ (.bool false)).setCell ⟨w.heap.size, 1, none⟩ (.slice Ak k ck)).setCell ⟨w.heap.size, 2, none⟩ (.slice none 0 0)).setCell ⟨w.heap.size, 3, none⟩ (.slice Ac (k + 1) cc) →
            KQ q w w' ∧ Bk w' w.heap.size 30 #[.bool false, .slice Ak k ck, .slice none 0 0, .slice Ac (k + 1) cc] ∧ Rd w.heap.size w' q l ∧ Seg w' Ak (strV ks) ∧ Seg w' Ac (intV (k0 :: cs)) := by
          intro w' hw
          have k1 : Kept1 w.heap.size wr w' := by
            rw [hw]
            exact (((Kept1.set wr _ _ _).trans (Kept1.set _ _ _ _)).trans (Kept1.set _ _ _ _)).trans (Kept1.set _ _ _ _)
          have hb : Below w.heap.size wr w' := by
            rw [hw]
            exact ((((Below.refl w.heap.size wr).setCell (p := ⟨w.heap.size, 0, none⟩) (Nat.le_refl _) _).setCell (p := ⟨w.heap.size, 1, none⟩) (Nat.le_refl _) _).setCell (p := ⟨w.heap.size, 2, none⟩) (Nat.le_refl _) _).setCell (p := ⟨w.heap.size, 3, none⟩) (Nat.le_refl _) _
          refine ⟨⟨hS.kq.bel.trans (hb.mono (by omega)), ⟨Nat.le_trans hS.kq.kept.size k1.size, fun b hlt hn => ?_⟩⟩, ?_, hS.rd.other k1 (by omega) (Or.inr (Nat.le_refl _)), Seg.of_own (own_st hS.ok k1 (own_tyne hS.ok hS.res (by decide))), Seg.of_own (own_st hS.oc k1 (own_tyne hS.oc hS.res (by decide)))⟩
          · rw [k1.block b (Nat.lt_of_lt_of_le hlt hS.kq.kept.size) (by omega)]
            exact hS.kq.kept.block b hlt hn
          · rw [hw]
            exact (((hS.res.put 0 (.bool false)).put 1 (.slice Ak k ck)).put 2 (.slice none 0 0)).put 3 (.slice Ac (k + 1) cc)
        have HSET := Lib.hid SET4
        have HP := Lib.hid (show branchP k l1 = some (ks, cs, l) by rw [hP]; show some (ks ++ [], cs ++ [], l) = _; rw [List.append_nil, List.append_nil])
        have HKL := Lib.hid (show ks.length = k from by have := hS.ok.1; rw [strV_length] at this; omega)
        have HVL := Lib.hid (show (k0 :: cs).length = k + 1 from by have := hS.oc.1; rw [intV_length] at this; omega)
        have HFK := Lib.hid (own_fresh hS.ok)
        have HFV := Lib.hid (own_fresh hS.oc)
        clear hS hlt hP hsk hsc SET4
        go_wp2_with fail
        generalize hwf : (((wr.setCell ⟨w.heap.size, 0, none⟩ (.bool false)).setCell ⟨w.heap.size, 1, none⟩ (.slice Ak k ck)).setCell ⟨w.heap.size, 2, none⟩ (.slice none 0 0)).setCell ⟨w.heap.size, 3, none⟩ (.slice Ac (k + 1) cc) = wf
        obtain ⟨g1, g2, g3, g4, g5⟩ := HSET.out wf hwf.symm
        clear hwf
        have z0 : wf.cell? ⟨w.heap.size, 0, none⟩ = some (.bool false) := g2.cell 0
        have z1 : wf.cell? ⟨w.heap.size, 1, none⟩ = some (.slice Ak k ck) := g2.cell 1
        have z2 : wf.cell? ⟨w.heap.size, 2, none⟩ = some (.slice none 0 0) := g2.cell 2
        have z3 : wf.cell? ⟨w.heap.size, 3, none⟩ = some (.slice Ac (k + 1) cc) := g2.cell 3
        refine bodyPost_ret (v := .agg #[.bool false, .slice Ak k ck, .slice none 0 0, .slice Ac (k + 1) cc]) (by simp [results, Try.results47, go_sem, z0, z1, z2, z3]) rfl ⟨g1, ?_⟩
        rw [HPC.out, HP.out]
        exact ⟨Ak, none, Ac, ck, 0, cc, by rw [HKL.out, HVL.out]; rfl, g4, Seg.nil _ _, g5, HFK.out, (fun a e => by cases e), HFV.out, by rw [HKL.out]; exact hck, Nat.le_refl _, by rw [HVL.out]; exact hcc, g3⟩
end Go.Proofs.Ytopkkolcimmedaa
