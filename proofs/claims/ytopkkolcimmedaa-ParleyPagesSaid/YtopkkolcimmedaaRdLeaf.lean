/- A leaf is read. Condition: the bytes lie in memory, apart from the reader. -/
import Derived.Test.YtopkkolcimmedaaRdF
import Derived.Deep.CutBlock
import Derived.Deep.DeepCutAuto
namespace Go.Proofs.Ytopkkolcimmedaa
open Go.RowKit

theorem apart_nil (v : Value) : Apart v (.slice none 0 0) := fun _ _ h => by simp [Value.ownBlock] at h
/-- What a part of the reader comes to. -/
def RdPost (B : Nat) (w0 : World) (q : Nat) (P : Option (NodeM × List Nat)) (e : Ending) (w' : World) : Prop :=
  KQ q w0 w' ∧ match P with
  | none => e = .panicked brokenE
  | some (n, r) => ∃ A C D ca cb cc, e = .returned (.agg #[.bool n.leaf, .slice A n.keys.length ca, .slice C n.vals.length cb, .slice D n.kids.length cc]) ∧
      Seg w' A (strV n.keys) ∧ Seg w' C (strV n.vals) ∧ Seg w' D (intV n.kids) ∧ (∀ a, A = some a → B ≤ a.block) ∧ (∀ a, C = some a → B ≤ a.block) ∧ (∀ a, D = some a → B ≤ a.block) ∧ n.keys.length ≤ ca ∧ n.vals.length ≤ cb ∧ n.kids.length ≤ cc ∧ Rd B w' q r
/-- Where a loop of the leaf stands. -/
structure LfS (w : World) (q k : Nat) (ks vs : List ByteArray) (l : List Nat) (K V : Value) (wr : World) : Prop where
  kq : KQ q w wr
  rd : Rd w.heap.size wr q l
  res : Bk wr w.heap.size 30 #[.bool false, .slice none 0 0, .slice none 0 0, .slice none 0 0]
  nd : Bk wr (w.heap.size + 1) 30 #[.bool true, K, V, .slice none 0 0]
  ok : wr.ownsRow w.heap.size 9 1 K k (strV ks)
  ov : wr.ownsRow w.heap.size 9 1 V k (strV vs)
  ap : Apart K V
theorem Apart.symm {v u : Value} (h : Apart v u) : Apart u v := fun g h1 h2 => h g h2 h1
def LfP (w : World) (q c : Nat) (l1 : List Nat) (k : Nat) (wr : World) : Prop :=
  ∃ ks vs l K V, LfS w q k ks vs l K V wr ∧ (∀ x ∈ l, x < 256) ∧ leafP c l1 = (leafP (c - k) l).map fun r => (ks ++ r.1, vs ++ r.2.1, r.2.2)
set_option maxRecDepth 100000 in
set_option maxHeartbeats 4000000 in
theorem leaf_any (q c : Nat) (l1 : List Nat) (w : World) (h : Rd w.heap.size w q (c :: l1)) (hl : ∀ x ∈ c :: l1, x < 256) :
    Calls Try.prog 46 #[.pointer (some ⟨q, 0, none⟩)] w (RdPost w.heap.size w q ((leafP c l1).map fun r => (⟨true, r.1, r.2.1, []⟩, r.2.2))) := by
  obtain ⟨i0, hi0, hz0, hz1, hz2⟩ := info_parts info_str
  have hq := h.lt
  have hc := hl c (by simp)
  have HL1 := Lib.hid (show ∀ x ∈ l1, x < 256 from fun x hx => hl x (List.mem_cons_of_mem _ hx))
  obtain ⟨wa, hwa⟩ : ∃ wa, wa = w.alloc (.cells #[.bool false, .slice none 0 0, .slice none 0 0, .slice none 0 0] 30) := ⟨_, rfl⟩
  obtain ⟨wb, hwb⟩ : ∃ wb, wb = wa.alloc (.cells #[.bool true, .slice none 0 0, .slice none 0 0, .slice none 0 0] 30) := ⟨_, rfl⟩
  have hsa : wa.heap.size = w.heap.size + 1 := by rw [hwa]; simp
  have Ba : Below w.heap.size w wa := by rw [hwa]; exact (Below.refl _ _).alloc (Nat.le_refl _) _
  have Bb : Below w.heap.size w wb := by rw [hwb]; exact Ba.alloc (by omega) _
  have X1 : Bk wb w.heap.size 30 #[.bool false, .slice none 0 0, .slice none 0 0, .slice none 0 0] := by rw [hwb, hwa]; exact (Bk.new w _ _).alloc _
  have X2 : Bk wb (w.heap.size + 1) 30 #[.bool true, .slice none 0 0, .slice none 0 0, .slice none 0 0] := by rw [hwb, ← hsa]; exact Bk.new wa _ _
  have HT := Lib.hid (number_ok q c l1 hc wb (h.bel Bb))
  have HX1 := Lib.hid X1
  have HX2 := Lib.hid X2
  have HBb := Lib.hid (KQ.of_below hq Bb)
  have HWA := Lib.hid hwa
  have HWB := Lib.hid hwb
  clear h hl X1 X2 Ba Bb hwa hwb hsa
  go_enter Try.func46, Try.ntmps46
  go_upto_region 2 with fail
  rw [← HWA.out, ← HWB.out]
  go_wp2_with fail
  refine HT.out.mono ?_
  rintro e w1 ⟨rfl, hr, hk⟩
  have HS0 := Lib.hid (show LfP w q c l1 0 w1 from ⟨[], [], l1, .slice none 0 0, .slice none 0 0, ⟨HBb.out.trans hk, hr, bk_kept HX1.out (by omega) hk.kept, bk_kept HX2.out (by omega) hk.kept, World.ownsRow_nil _ _ _ _, World.ownsRow_nil _ _ _ _, apart_nil _⟩, HL1.out, by
    rw [Nat.sub_zero]
    cases leafP c l1 <;> rfl⟩)
  clear hr hk HT HX1 HX2 HBb HWA HWB
  go_wp2_with fail
  go_loopw [7] (fun i wr => ∃ k : Nat, k ≤ c ∧ i = .int .i64 k ∧ LfP w q c l1 k wr) (fun i _ => c - (intOf i).toNat)
  case atStart => exact ⟨0, by omega, rfl, HS0.out⟩
  case round =>
    clear HS0
    obtain ⟨k, hk, rfl, ks, vs, l, K, V, hS, hlt, hP⟩ := hrel
    obtain ⟨Ak, ck, rfl, hck, hsk⟩ := own_shape hS.ok
    obtain ⟨Av, cv, rfl, hcv, hsv⟩ := own_shape hS.ov
    by_cases hkc : k < c
    · have hkI : (k : Int) < (c : Int) := by omega
      have hB : w.heap.size ≤ wr.heap.size := hS.kq.kept.size
      have HL := Lib.hid hlt
      have HAP := Lib.hid hS.ap
      have hstep : leafP (c - k) l = (txtP l).bind fun a => (txtP a.2).bind fun b => (leafP (c - (k + 1)) b.2).map fun r => (a.1 :: r.1, b.1 :: r.2.1, r.2.2) := by
        rw [show c - k = (c - (k + 1)) + 1 by omega]; rfl
      rw [hstep] at hP
      have G0 := Lib.hid (show ApG w w.heap.size q w.heap.size (w.heap.size + 1) 30 #[.bool false, .slice none 0 0, .slice none 0 0, .slice none 0 0] 9 3 (.slice Av k cv) (.slice none 0 0) k 0 (strV vs) [] (Value.ownBlock (.slice Ak k ck)) wr.drew from
        ⟨hS.kq.drewN 1, hS.nd.lt, hS.res, own_belS hS.ov (Below.refl _ _).drew, World.ownsRow_nil _ _ _ _, fun b e => own_ge hS.ok e, hq, Nat.le_refl _, by omega, by omega, rfl⟩)
      have H0 := Lib.hid (show ∀ m, m < 8 → apH w.heap.size q (w.heap.size + 1) 30 9 (fun v => #[.bool true, v, (.slice Av k cv), .slice none 0 0]) (.slice Ak k ck) k (strV ks) l m wr.drew from fun m _ => by
        unfold apH
        split
        · exact hS.rd
        · exact own_belS hS.ok (Below.refl _ _).drew
        · exact hS.nd
        · trivial)
      clear hS hlt hsk hsv hstep
      cases htx : txtP l with
      | none =>
        rw [htx] at hP
        have HPost := Lib.hid (show ∀ w', KQ q w w' → RdPost w.heap.size w q ((leafP c l1).map fun r => (⟨true, r.1, r.2.1, []⟩, r.2.2)) (.panicked brokenE) w' from fun w' hk => ⟨hk, by rw [hP]; rfl⟩)
        have HP := Lib.hid htx
        clear hP htx
        go_wp2_with fail
        refine wp_region_late [some 9, some 10, some 11, some 12, some 13, some 14, some 15, none] (fun _ => 0) (apN q (w.heap.size + 1) 1 (.slice Ak k ck)) (ApG w w.heap.size q w.heap.size (w.heap.size + 1) 30 #[.bool false, .slice none 0 0, .slice none 0 0, .slice none 0 0] 9 3 (.slice Av k cv) (.slice none 0 0) k 0 (strV vs) [] (Value.ownBlock (.slice Ak k ck))) (apH w.heap.size q (w.heap.size + 1) 30 9 (fun v => #[.bool true, v, (.slice Av k cv), .slice none 0 0]) (.slice Ak k ck) k (strV ks) l) (by kernel_rfl) G0.out H0.out rfl (by kernel_rfl) (by kernel_rfl) (by kernel_rfl) (by kernel_rfl) (fun T hT => ?_)
        simp only [List.filterMap_cons, List.filterMap_nil, id, putsS, Act.put, List.setIfInBounds_toArray, List.set_cons_zero, List.set_cons_succ] at hT
        subst hT
        refine ⟨⟨?_, ?_, ?_, ?_, ?_, ?_, ?_, ?_, trivial⟩, ?_⟩
        · -- 0: Op.fieldAddr 25 t3 1
          intro f w1 hG hO hL hF K hK
          clear hF hO hL
          dsimp only at hK ⊢
          go_simp
          exact hK.out _ _ hG rfl (fun _ _ _ h => h) (fun _ _ h => h)
        · -- 1: Op.load 22 t9
          intro f w1 hG hO hL hF K hK
          have l7 : (apH w.heap.size q (w.heap.size + 1) 30 9 (fun v => #[.bool true, v, (.slice Av k cv), .slice none 0 0]) (.slice Ak k ck) k (strV ks) l) 7 w1 := hL 7 (Nat.le_of_ble_eq_true (by kernel_rfl)) (by kernel_rfl)
          have d0 : (apN q (w.heap.size + 1) 1 (.slice Ak k ck)) 0 (f 9) (f 0) w1 := hF 0 (by kernel_rfl)
          clear hF hO hL
          dsimp only at hK ⊢
          generalize hf9 : f 9 = v9 at *
          subst d0
          have y : w1.cell? ⟨(w.heap.size + 1), 1, none⟩ = some (.slice Ak k ck) := Bk.cell l7 1
          go_simp
          exact hK.out _ _ hG rfl (fun _ _ _ h => h) (fun _ _ h => h)
        · -- 2: Op.move t0
          intro f w1 hG hO hL hF K hK
          clear hF hO hL
          dsimp only at hK ⊢
          go_simp
          exact hK.out _ _ hG rfl (fun _ _ _ h => h) (fun _ _ h => h)
        · -- 3: Op.call ( value (Operand.func 60), args := #[t11], argTypes := #[55] )
          intro f w1 hG hO hL hF K hK
          have l3 : (apH w.heap.size q (w.heap.size + 1) 30 9 (fun v => #[.bool true, v, (.slice Av k cv), .slice none 0 0]) (.slice Ak k ck) k (strV ks) l) 3 w1 := hL 3 (Nat.le_of_ble_eq_true (by kernel_rfl)) (by kernel_rfl)
          have d2 : (apN q (w.heap.size + 1) 1 (.slice Ak k ck)) 2 (f 11) (f 0) w1 := hF 2 (by kernel_rfl)
          clear hF hO hL
          dsimp only at hK ⊢
          generalize hf11 : f 11 = v11 at *
          subst d2
          go_simp
          refine (text_no q l w1 l3 HL.out HP.out).mono ?_
          rintro e w2' ⟨rfl, hk⟩
          exact ⟨rfl, HPost.out _ (hG.kq.trans hk)⟩
        · -- 4: Op.buildSlice 22 1 #[(0, t12)]
          intro f w1 hG hO hL hF K hK
          have d3 : (apN q (w.heap.size + 1) 1 (.slice Ak k ck)) 3 (f 12) (f 0) w1 := hF 3 (by kernel_rfl)
          clear hF hO hL
          dsimp only at hK ⊢
          generalize hf12 : f 12 = v12 at *
          exact False.elim d3
        · -- 5: Op.call ( builtin append, args := #[t10, t13], argTypes := #[22, 22] )
          intro f w1 hG hO hL hF K hK
          have d1 : (apN q (w.heap.size + 1) 1 (.slice Ak k ck)) 1 (f 10) (f 0) w1 := hF 1 (by kernel_rfl)
          have d4 : (apN q (w.heap.size + 1) 1 (.slice Ak k ck)) 4 (f 13) (f 0) w1 := hF 4 (by kernel_rfl)
          clear hF hO hL
          dsimp only at hK ⊢
          generalize hf10 : f 10 = v10 at *
          generalize hf13 : f 13 = v13 at *
          exact False.elim d4
        · -- 6: Op.fieldAddr 25 t3 1
          intro f w1 hG hO hL hF K hK
          clear hF hO hL
          dsimp only at hK ⊢
          go_simp
          exact hK.out _ _ hG rfl (fun _ _ _ h => h) (fun _ _ h => h)
        · -- 7: Op.store 22 t15 t14
          intro f w1 hG hO hL hF K hK
          have d6 : (apN q (w.heap.size + 1) 1 (.slice Ak k ck)) 6 (f 15) (f 0) w1 := hF 6 (by kernel_rfl)
          have d5 : (apN q (w.heap.size + 1) 1 (.slice Ak k ck)) 5 (f 14) (f 0) w1 := hF 5 (by kernel_rfl)
          clear hF hO hL
          dsimp only at hK ⊢
          generalize hf15 : f 15 = v15 at *
          generalize hf14 : f 14 = v14 at *
          exact False.elim d5
        intro f w6 hG hF
        have f3 : False := hF 3 (by decide)
        exact f3.elim
      | some a =>
        obtain ⟨s, l2⟩ := a
        rw [htx] at hP
        have HP := Lib.hid htx
        have hl2 : ∀ x ∈ l2, x < 256 := fun x hx => HL.out x (by rw [(txtP_of HL.out htx).1]; exact List.mem_append_right _ hx)
        have HL2 := Lib.hid hl2
        have HPP := Lib.hid hP
        clear hP htx hl2
        go_wp2_with fail
        refine wp_region_late [some 9, some 10, some 11, some 12, some 13, some 14, some 15, none] (fun _ => 0) (apF w.heap.size q (w.heap.size + 1) 1 30 9 (fun v => #[.bool true, v, (.slice Av k cv), .slice none 0 0]) (.slice Ak k ck) (.string s) (.slice Av k cv) (.slice none 0 0) k (strV ks) l2) (ApG w w.heap.size q w.heap.size (w.heap.size + 1) 30 #[.bool false, .slice none 0 0, .slice none 0 0, .slice none 0 0] 9 3 (.slice Av k cv) (.slice none 0 0) k 0 (strV vs) [] (Value.ownBlock (.slice Ak k ck))) (apH w.heap.size q (w.heap.size + 1) 30 9 (fun v => #[.bool true, v, (.slice Av k cv), .slice none 0 0]) (.slice Ak k ck) k (strV ks) l) (by kernel_rfl) G0.out H0.out rfl (by kernel_rfl) (by kernel_rfl) (by kernel_rfl) (by kernel_rfl) (fun T hT => ?_)
        simp only [List.filterMap_cons, List.filterMap_nil, id, putsS, Act.put, List.setIfInBounds_toArray, List.set_cons_zero, List.set_cons_succ] at hT
        subst hT
        refine ⟨⟨?_, ?_, ?_, ?_, ?_, ?_, ?_, ?_, trivial⟩, ?_⟩
        · -- 0: Op.fieldAddr 25 t3 1
          intro f w1 hG hO hL hF K hK
          clear hF hO hL
          dsimp only at hK ⊢
          go_simp
          exact hK.out _ _ hG rfl (fun _ _ _ h => h) (fun _ _ h => h)
        · -- 1: Op.load 22 t9
          intro f w1 hG hO hL hF K hK
          have l7 : (apH w.heap.size q (w.heap.size + 1) 30 9 (fun v => #[.bool true, v, (.slice Av k cv), .slice none 0 0]) (.slice Ak k ck) k (strV ks) l) 7 w1 := hL 7 (Nat.le_of_ble_eq_true (by kernel_rfl)) (by kernel_rfl)
          have d0 : (apF w.heap.size q (w.heap.size + 1) 1 30 9 (fun v => #[.bool true, v, (.slice Av k cv), .slice none 0 0]) (.slice Ak k ck) (.string s) (.slice Av k cv) (.slice none 0 0) k (strV ks) l2) 0 (f 9) (f 0) w1 := hF 0 (by kernel_rfl)
          clear hF hO hL
          dsimp only at hK ⊢
          generalize hf9 : f 9 = v9 at *
          subst d0
          have y : w1.cell? ⟨(w.heap.size + 1), 1, none⟩ = some (.slice Ak k ck) := Bk.cell l7 1
          go_simp
          exact hK.out _ _ hG rfl (fun _ _ _ h => h) (fun _ _ h => h)
        · -- 2: Op.move t0
          intro f w1 hG hO hL hF K hK
          clear hF hO hL
          dsimp only at hK ⊢
          go_simp
          exact hK.out _ _ hG rfl (fun _ _ _ h => h) (fun _ _ h => h)
        · -- 3: Op.call ( value (Operand.func 60), args := #[t11], argTypes := #[55] )
          intro f w1 hG hO hL hF K hK
          have l3 : (apH w.heap.size q (w.heap.size + 1) 30 9 (fun v => #[.bool true, v, (.slice Av k cv), .slice none 0 0]) (.slice Ak k ck) k (strV ks) l) 3 w1 := hL 3 (Nat.le_of_ble_eq_true (by kernel_rfl)) (by kernel_rfl)
          have d2 : (apF w.heap.size q (w.heap.size + 1) 1 30 9 (fun v => #[.bool true, v, (.slice Av k cv), .slice none 0 0]) (.slice Ak k ck) (.string s) (.slice Av k cv) (.slice none 0 0) k (strV ks) l2) 2 (f 11) (f 0) w1 := hF 2 (by kernel_rfl)
          clear hF hO hL
          dsimp only at hK ⊢
          generalize hf11 : f 11 = v11 at *
          subst d2
          go_simp
          refine (text_ok q l l2 s w1 l3 HL.out HP.out).mono ?_
          rintro e w2' ⟨rfl, hr, hk⟩
          exact hK.out _ _ (hG.call hk) ⟨rfl, hr⟩ (fun j hj _ h => apF_call hk hG.s1 hG.s3 j hj _ _ h) (fun m hm h => apH_call hk hG.s1 hG.s3 m hm h)
        · -- 4: Op.buildSlice 22 1 #[(0, t12)]
          intro f w1 hG hO hL hF K hK
          have d3 : (apF w.heap.size q (w.heap.size + 1) 1 30 9 (fun v => #[.bool true, v, (.slice Av k cv), .slice none 0 0]) (.slice Ak k ck) (.string s) (.slice Av k cv) (.slice none 0 0) k (strV ks) l2) 3 (f 12) (f 0) w1 := hF 3 (by kernel_rfl)
          clear hF hO hL
          dsimp only at hK ⊢
          generalize hf12 : f 12 = v12 at *
          obtain ⟨rfl, _⟩ := d3
          go_simp
          exact hK.out _ _ (hG.next ((Below.refl _ _).alloc (Nat.le_refl _) _)) ⟨w1.heap.size, rfl, hG.big, (by have := hG.lt3; omega), (fun e => absurd (hG.kl _ e).2 (Nat.lt_irrefl _)), Bk.new w1 _ _⟩ (fun j _ _ h => apF_bel ((Below.refl _ _).alloc (Nat.le_refl _) _) j _ _ h) (fun m _ h => apH_bel ((Below.refl _ _).alloc (Nat.le_refl _) _) m h)
        · -- 5: Op.call ( builtin append, args := #[t10, t13], argTypes := #[22, 22] )
          intro f w1 hG hO hL hF K hK
          have l5 : (apH w.heap.size q (w.heap.size + 1) 30 9 (fun v => #[.bool true, v, (.slice Av k cv), .slice none 0 0]) (.slice Ak k ck) k (strV ks) l) 5 w1 := hL 5 (Nat.le_of_ble_eq_true (by kernel_rfl)) (by kernel_rfl)
          have l7 : (apH w.heap.size q (w.heap.size + 1) 30 9 (fun v => #[.bool true, v, (.slice Av k cv), .slice none 0 0]) (.slice Ak k ck) k (strV ks) l) 7 w1 := hL 7 (Nat.le_of_ble_eq_true (by kernel_rfl)) (by kernel_rfl)
          have d1 : (apF w.heap.size q (w.heap.size + 1) 1 30 9 (fun v => #[.bool true, v, (.slice Av k cv), .slice none 0 0]) (.slice Ak k ck) (.string s) (.slice Av k cv) (.slice none 0 0) k (strV ks) l2) 1 (f 10) (f 0) w1 := hF 1 (by kernel_rfl)
          have d4 : (apF w.heap.size q (w.heap.size + 1) 1 30 9 (fun v => #[.bool true, v, (.slice Av k cv), .slice none 0 0]) (.slice Ak k ck) (.string s) (.slice Av k cv) (.slice none 0 0) k (strV ks) l2) 4 (f 13) (f 0) w1 := hF 4 (by kernel_rfl)
          clear hF hO hL
          dsimp only at hK ⊢
          generalize hf10 : f 10 = v10 at *
          generalize hf13 : f 13 = v13 at *
          have d1 : v10 = (.slice Ak k ck) := d1
          subst d1
          obtain ⟨g, rfl, h0, h1, h2, h3⟩ := d4
          have hcb : ∀ j u, [(.string s)][j]? = some u → w1.cell? ((⟨g, 0, none⟩ : Addr).add j) = some u := fun j u hu => by
            rw [show ((⟨g, 0, none⟩ : Addr).add j) = ⟨g, j, none⟩ by unfold Addr.add; split <;> simp_all, h3.cell j]; simpa using hu
          obtain ⟨v', w2', hrun, hown, hgr, _, hat⟩ := run_append_own_at (P := Try.prog) (w := w1) w.heap.size 27 27 9 i0 _ 1 16 Try.underlying27 hi0 hz0 hz1 hz2 rfl (by decide) (.slice Ak k ck) k (strV ks) l5 ⟨g, 0, none⟩ 1 1 [(.string s)] rfl hcb (by intro u hu; simp only [List.mem_singleton] at hu; subst hu; rfl) (by simp only [maxLen]; omega) (by omega) hG.big
          have ap1 : Apart v' (.slice Av k cv) := fun b hb hb2 => by
            rcases hat with h | h
            · exact HAP.out b (h ▸ hb) hb2
            · rw [h] at hb
              injection hb with hb
              subst hb
              exact absurd (own_ge hG.o1 hb2).2 (Nat.lt_irrefl _)
          have ap2 : Apart v' (.slice none 0 0) := fun b hb hb2 => by
            rcases hat with h | h
            · exact (apart_nil _) b (h ▸ hb) hb2
            · rw [h] at hb
              injection hb with hb
              subst hb
              exact absurd (own_ge hG.o2 hb2).2 (Nat.lt_irrefl _)
          have kn : ∀ {u : Value}, Apart (.slice Ak k ck) u → (Value.ownBlock (.slice Ak k ck) = none ∨ u.ownBlock ≠ Value.ownBlock (.slice Ak k ck)) := fun {u} ha => by
            cases hK : Value.ownBlock (.slice Ak k ck) with
            | none => exact Or.inl rfl
            | some b => exact Or.inr (ha b hK)
          have nk3 : Value.ownBlock (.slice Ak k ck) ≠ some (w.heap.size + 1) := own_tyne l5 l7 (by decide)
          have nk2 : Value.ownBlock (.slice Ak k ck) ≠ some w.heap.size := own_tyne l5 hG.res (by decide)
          refine Lib.wp_append_run w1 _ _ _ _ rfl _ _ rfl rfl _ w2' hrun (hK.out v' w2' (hG.app hgr nk2 (kn HAP.out) (kn (apart_nil _))) ⟨hown, ap1, ap2⟩ ?_ (fun m hm h => apH_app hgr hG.s1 (fun b e => (hG.kl b e).1) nk3 m hm h))
          intro j hj hdep h
          by_cases h7 : j = 7
          · subst h7
            exact absurd hdep (by rw [show depS _ 7 5 = true by kernel_rfl]; decide)
          · exact apF_app rfl hgr hG.s1 (fun b e => (hG.kl b e).1) j hj h7 _ _ h
        · -- 6: Op.fieldAddr 25 t3 1
          intro f w1 hG hO hL hF K hK
          clear hF hO hL
          dsimp only at hK ⊢
          go_simp
          exact hK.out _ _ hG rfl (fun _ _ _ h => h) (fun _ _ h => h)
        · -- 7: Op.store 22 t15 t14
          intro f w1 hG hO hL hF K hK
          have l7 : (apH w.heap.size q (w.heap.size + 1) 30 9 (fun v => #[.bool true, v, (.slice Av k cv), .slice none 0 0]) (.slice Ak k ck) k (strV ks) l) 7 w1 := hL 7 (Nat.le_of_ble_eq_true (by kernel_rfl)) (by kernel_rfl)
          have d6 : (apF w.heap.size q (w.heap.size + 1) 1 30 9 (fun v => #[.bool true, v, (.slice Av k cv), .slice none 0 0]) (.slice Ak k ck) (.string s) (.slice Av k cv) (.slice none 0 0) k (strV ks) l2) 6 (f 15) (f 0) w1 := hF 6 (by kernel_rfl)
          have d5 : (apF w.heap.size q (w.heap.size + 1) 1 30 9 (fun v => #[.bool true, v, (.slice Av k cv), .slice none 0 0]) (.slice Ak k ck) (.string s) (.slice Av k cv) (.slice none 0 0) k (strV ks) l2) 5 (f 14) (f 0) w1 := hF 5 (by kernel_rfl)
          clear hF hO hL
          dsimp only at hK ⊢
          generalize hf15 : f 15 = v15 at *
          generalize hf14 : f 14 = v14 at *
          subst d6
          have hd5 : w1.ownsRow w.heap.size 9 1 v14 (k + 1) ((strV ks) ++ [(.string s)]) ∧ Apart v14 (.slice Av k cv) ∧ Apart v14 (.slice none 0 0) := d5
          clear d5
          obtain ⟨A5, c5, rfl, _, _⟩ := own_shape hd5.1
          have hl7 : Bk w1 (w.heap.size + 1) 30 #[.bool true, (.slice Ak k ck), (.slice Av k cv), .slice none 0 0] := l7
          have y0 : w1.cell? ⟨(w.heap.size + 1), 1, none⟩ = some (.slice Ak k ck) := Bk.cell hl7 1
          have f0 := Bk.frozen hl7 1
          have HD5 := Lib.hid hd5
          have HL7 := Lib.hid hl7
          have HG := Lib.hid hG
          clear hd5 hl7 l7 hG
          go_simp
          refine hK.out undef _ (HG.out.set HL7.out (by decide) (by decide) 1 (.slice A5 (k + 1) c5)) ⟨_, HL7.out.put 1 (.slice A5 (k + 1) c5), own_st HD5.out.1 (Kept1.set w1 (w.heap.size + 1) 1 _) (own_tyne HD5.out.1 HL7.out (by decide)), HD5.out.2⟩ (fun j hj _ h => apF_set HL7.out (by decide) HG.out.s1 HG.out.s3 1 _ j hj _ _ h) (fun m hm h => apH_set HL7.out (by decide) HG.out.s1 HG.out.s3 1 _ m hm h)
        intro f w6 hG hF
        obtain ⟨V', g1, g2', g3', g4'⟩ : apF w.heap.size q (w.heap.size + 1) 1 30 9 (fun v => #[.bool true, v, (.slice Av k cv), .slice none 0 0]) (.slice Ak k ck) (.string s) (.slice Av k cv) (.slice none 0 0) k (strV ks) l2 7 undef undef w6 := hF 7 (by decide)
        have f3 : apF w.heap.size q (w.heap.size + 1) 1 30 9 (fun v => #[.bool true, v, (.slice Av k cv), .slice none 0 0]) (.slice Ak k ck) (.string s) (.slice Av k cv) (.slice none 0 0) k (strV ks) l2 3 (f 12) (f 0) w6 := hF 3 (by decide)
        have HG := Lib.hid hG
        have HV1 := Lib.hid g1
        have HV2 := Lib.hid g2'
        have HV3 := Lib.hid g3'
        have HV4 := Lib.hid g4'
        have HRd := Lib.hid f3.2
        clear hF hG g1 g2' g3' g4' f3
        dsimp only
        generalize f 9 = v9
        generalize f 10 = v10
        generalize f 11 = v11
        generalize f 12 = v12
        generalize f 13 = v13
        generalize f 14 = v14
        generalize f 15 = v15
        obtain ⟨A4, c4, rfl, hc4, _⟩ := own_shape HV2.out
        have G1 := Lib.hid (show ApG w w.heap.size q w.heap.size (w.heap.size + 1) 30 #[.bool false, .slice none 0 0, .slice none 0 0, .slice none 0 0] 9 3 (.slice A4 (k + 1) c4) (.slice none 0 0) (k + 1) 0 (strV ks ++ [.string s]) [] (Value.ownBlock (.slice Av k cv)) w6.drew from
          ⟨HG.out.kq.drewN 1, HG.out.lt3, HG.out.res, own_belS HV2.out (Below.refl _ _).drew, World.ownsRow_nil _ _ _ _, fun b e => own_ge HG.out.o1 e, hq, Nat.le_refl _, by omega, by omega, rfl⟩)
        have H1 := Lib.hid (show ∀ m, m < 8 → apH w.heap.size q (w.heap.size + 1) 30 9 (fun v => #[.bool true, .slice A4 (k + 1) c4, v, .slice none 0 0]) (.slice Av k cv) k (strV vs) l2 m w6.drew from fun m _ => by
          unfold apH
          split
          · exact HRd.out
          · exact own_belS HG.out.o1 (Below.refl _ _).drew
          · exact HV1.out
          · trivial)
        have HAP2 := Lib.hid (show Apart (.slice Av k cv) (.slice A4 (k + 1) c4) from HV3.out.symm)
        clear HV1 HV2 HV3 HV4 HRd HG G0 H0
        cases htx : txtP l2 with
        | none =>
          have hP := HPP.out
          rw [Option.bind_some, htx] at hP
          have HPost := Lib.hid (show ∀ w', KQ q w w' → RdPost w.heap.size w q ((leafP c l1).map fun r => (⟨true, r.1, r.2.1, []⟩, r.2.2)) (.panicked brokenE) w' from fun w' hk => ⟨hk, by rw [hP]; rfl⟩)
          have HP2 := Lib.hid htx
          clear hP htx HPP
          go_wp2_with fail
          refine wp_region_late [some 16, some 17, some 18, some 19, some 20, some 21, some 22, none] (fun _ => 0) (apN q (w.heap.size + 1) 2 (.slice Av k cv)) (ApG w w.heap.size q w.heap.size (w.heap.size + 1) 30 #[.bool false, .slice none 0 0, .slice none 0 0, .slice none 0 0] 9 3 (.slice A4 (k + 1) c4) (.slice none 0 0) (k + 1) 0 (strV ks ++ [.string s]) [] (Value.ownBlock (.slice Av k cv))) (apH w.heap.size q (w.heap.size + 1) 30 9 (fun v => #[.bool true, (.slice A4 (k + 1) c4), v, .slice none 0 0]) (.slice Av k cv) k (strV vs) l2) (by kernel_rfl) G1.out H1.out rfl (by kernel_rfl) (by kernel_rfl) (by kernel_rfl) (by kernel_rfl) (fun T hT => ?_)
          simp only [List.filterMap_cons, List.filterMap_nil, id, putsS, Act.put, List.setIfInBounds_toArray, List.set_cons_zero, List.set_cons_succ] at hT
          subst hT
          refine ⟨⟨?_, ?_, ?_, ?_, ?_, ?_, ?_, ?_, trivial⟩, ?_⟩
          · -- 0: Op.fieldAddr 25 t3 2
            intro f w1 hG hO hL hF K hK
            clear hF hO hL
            dsimp only at hK ⊢
            go_simp
            exact hK.out _ _ hG rfl (fun _ _ _ h => h) (fun _ _ h => h)
          · -- 1: Op.load 22 t16
            intro f w1 hG hO hL hF K hK
            have l7 : (apH w.heap.size q (w.heap.size + 1) 30 9 (fun v => #[.bool true, (.slice A4 (k + 1) c4), v, .slice none 0 0]) (.slice Av k cv) k (strV vs) l2) 7 w1 := hL 7 (Nat.le_of_ble_eq_true (by kernel_rfl)) (by kernel_rfl)
            have d0 : (apN q (w.heap.size + 1) 2 (.slice Av k cv)) 0 (f 16) (f 0) w1 := hF 0 (by kernel_rfl)
            clear hF hO hL
            dsimp only at hK ⊢
            generalize hf16 : f 16 = v16 at *
            subst d0
            have y : w1.cell? ⟨(w.heap.size + 1), 2, none⟩ = some (.slice Av k cv) := Bk.cell l7 2
            go_simp
            exact hK.out _ _ hG rfl (fun _ _ _ h => h) (fun _ _ h => h)
          · -- 2: Op.move t0
            intro f w1 hG hO hL hF K hK
            clear hF hO hL
            dsimp only at hK ⊢
            go_simp
            exact hK.out _ _ hG rfl (fun _ _ _ h => h) (fun _ _ h => h)
          · -- 3: Op.call ( value (Operand.func 60), args := #[t18], argTypes := #[55] )
            intro f w1 hG hO hL hF K hK
            have l3 : (apH w.heap.size q (w.heap.size + 1) 30 9 (fun v => #[.bool true, (.slice A4 (k + 1) c4), v, .slice none 0 0]) (.slice Av k cv) k (strV vs) l2) 3 w1 := hL 3 (Nat.le_of_ble_eq_true (by kernel_rfl)) (by kernel_rfl)
            have d2 : (apN q (w.heap.size + 1) 2 (.slice Av k cv)) 2 (f 18) (f 0) w1 := hF 2 (by kernel_rfl)
            clear hF hO hL
            dsimp only at hK ⊢
            generalize hf18 : f 18 = v18 at *
            subst d2
            go_simp
            refine (text_no q l2 w1 l3 HL2.out HP2.out).mono ?_
            rintro e w2' ⟨rfl, hk⟩
            exact ⟨rfl, HPost.out _ (hG.kq.trans hk)⟩
          · -- 4: Op.buildSlice 22 1 #[(0, t19)]
            intro f w1 hG hO hL hF K hK
            have d3 : (apN q (w.heap.size + 1) 2 (.slice Av k cv)) 3 (f 19) (f 0) w1 := hF 3 (by kernel_rfl)
            clear hF hO hL
            dsimp only at hK ⊢
            generalize hf19 : f 19 = v19 at *
            exact False.elim d3
          · -- 5: Op.call ( builtin append, args := #[t17, t20], argTypes := #[22, 22] )
            intro f w1 hG hO hL hF K hK
            have d1 : (apN q (w.heap.size + 1) 2 (.slice Av k cv)) 1 (f 17) (f 0) w1 := hF 1 (by kernel_rfl)
            have d4 : (apN q (w.heap.size + 1) 2 (.slice Av k cv)) 4 (f 20) (f 0) w1 := hF 4 (by kernel_rfl)
            clear hF hO hL
            dsimp only at hK ⊢
            generalize hf17 : f 17 = v17 at *
            generalize hf20 : f 20 = v20 at *
            exact False.elim d4
          · -- 6: Op.fieldAddr 25 t3 2
            intro f w1 hG hO hL hF K hK
            clear hF hO hL
            dsimp only at hK ⊢
            go_simp
            exact hK.out _ _ hG rfl (fun _ _ _ h => h) (fun _ _ h => h)
          · -- 7: Op.store 22 t22 t21
            intro f w1 hG hO hL hF K hK
            have d6 : (apN q (w.heap.size + 1) 2 (.slice Av k cv)) 6 (f 22) (f 0) w1 := hF 6 (by kernel_rfl)
            have d5 : (apN q (w.heap.size + 1) 2 (.slice Av k cv)) 5 (f 21) (f 0) w1 := hF 5 (by kernel_rfl)
            clear hF hO hL
            dsimp only at hK ⊢
            generalize hf22 : f 22 = v22 at *
            generalize hf21 : f 21 = v21 at *
            exact False.elim d5
          intro f w6 hG hF
          have f3 : False := hF 3 (by decide)
          exact f3.elim
        | some b =>
          obtain ⟨t, lz⟩ := b
          have hP := HPP.out
          rw [Option.bind_some, htx, Option.bind_some] at hP
          dsimp only at hP
          have HP2 := Lib.hid htx
          have hl3 : ∀ x ∈ lz, x < 256 := fun x hx => HL2.out x (by rw [(txtP_of HL2.out htx).1]; exact List.mem_append_right _ hx)
          have HL3 := Lib.hid hl3
          have HPQ := Lib.hid (show leafP c l1 = (leafP (c - (k + 1)) lz).map fun r => ((ks ++ [s]) ++ r.1, (vs ++ [t]) ++ r.2.1, r.2.2) by
            rw [hP, Option.map_map]
            congr 1
            funext r
            simp)
          clear hP htx HPP hl3
          go_wp2_with fail
          refine wp_region_late [some 16, some 17, some 18, some 19, some 20, some 21, some 22, none] (fun _ => 0) (apF w.heap.size q (w.heap.size + 1) 2 30 9 (fun v => #[.bool true, (.slice A4 (k + 1) c4), v, .slice none 0 0]) (.slice Av k cv) (.string t) (.slice A4 (k + 1) c4) (.slice none 0 0) k (strV vs) lz) (ApG w w.heap.size q w.heap.size (w.heap.size + 1) 30 #[.bool false, .slice none 0 0, .slice none 0 0, .slice none 0 0] 9 3 (.slice A4 (k + 1) c4) (.slice none 0 0) (k + 1) 0 (strV ks ++ [.string s]) [] (Value.ownBlock (.slice Av k cv))) (apH w.heap.size q (w.heap.size + 1) 30 9 (fun v => #[.bool true, (.slice A4 (k + 1) c4), v, .slice none 0 0]) (.slice Av k cv) k (strV vs) l2) (by kernel_rfl) G1.out H1.out rfl (by kernel_rfl) (by kernel_rfl) (by kernel_rfl) (by kernel_rfl) (fun T hT => ?_)
          simp only [List.filterMap_cons, List.filterMap_nil, id, putsS, Act.put, List.setIfInBounds_toArray, List.set_cons_zero, List.set_cons_succ] at hT
          subst hT
          refine ⟨⟨?_, ?_, ?_, ?_, ?_, ?_, ?_, ?_, trivial⟩, ?_⟩
          · -- 0: Op.fieldAddr 25 t3 2
            intro f w1 hG hO hL hF K hK
            clear hF hO hL
            dsimp only at hK ⊢
            go_simp
            exact hK.out _ _ hG rfl (fun _ _ _ h => h) (fun _ _ h => h)
          · -- 1: Op.load 22 t16
            intro f w1 hG hO hL hF K hK
            have l7 : (apH w.heap.size q (w.heap.size + 1) 30 9 (fun v => #[.bool true, (.slice A4 (k + 1) c4), v, .slice none 0 0]) (.slice Av k cv) k (strV vs) l2) 7 w1 := hL 7 (Nat.le_of_ble_eq_true (by kernel_rfl)) (by kernel_rfl)
            have d0 : (apF w.heap.size q (w.heap.size + 1) 2 30 9 (fun v => #[.bool true, (.slice A4 (k + 1) c4), v, .slice none 0 0]) (.slice Av k cv) (.string t) (.slice A4 (k + 1) c4) (.slice none 0 0) k (strV vs) lz) 0 (f 16) (f 0) w1 := hF 0 (by kernel_rfl)
            clear hF hO hL
            dsimp only at hK ⊢
            generalize hf16 : f 16 = v16 at *
            subst d0
            have y : w1.cell? ⟨(w.heap.size + 1), 2, none⟩ = some (.slice Av k cv) := Bk.cell l7 2
            go_simp
            exact hK.out _ _ hG rfl (fun _ _ _ h => h) (fun _ _ h => h)
          · -- 2: Op.move t0
            intro f w1 hG hO hL hF K hK
            clear hF hO hL
            dsimp only at hK ⊢
            go_simp
            exact hK.out _ _ hG rfl (fun _ _ _ h => h) (fun _ _ h => h)
          · -- 3: Op.call ( value (Operand.func 60), args := #[t18], argTypes := #[55] )
            intro f w1 hG hO hL hF K hK
            have l3 : (apH w.heap.size q (w.heap.size + 1) 30 9 (fun v => #[.bool true, (.slice A4 (k + 1) c4), v, .slice none 0 0]) (.slice Av k cv) k (strV vs) l2) 3 w1 := hL 3 (Nat.le_of_ble_eq_true (by kernel_rfl)) (by kernel_rfl)
            have d2 : (apF w.heap.size q (w.heap.size + 1) 2 30 9 (fun v => #[.bool true, (.slice A4 (k + 1) c4), v, .slice none 0 0]) (.slice Av k cv) (.string t) (.slice A4 (k + 1) c4) (.slice none 0 0) k (strV vs) lz) 2 (f 18) (f 0) w1 := hF 2 (by kernel_rfl)
            clear hF hO hL
            dsimp only at hK ⊢
            generalize hf18 : f 18 = v18 at *
            subst d2
            go_simp
            refine (text_ok q l2 lz t w1 l3 HL2.out HP2.out).mono ?_
            rintro e w2' ⟨rfl, hr, hk⟩
            exact hK.out _ _ (hG.call hk) ⟨rfl, hr⟩ (fun j hj _ h => apF_call hk hG.s1 hG.s3 j hj _ _ h) (fun m hm h => apH_call hk hG.s1 hG.s3 m hm h)
          · -- 4: Op.buildSlice 22 1 #[(0, t19)]
            intro f w1 hG hO hL hF K hK
            have d3 : (apF w.heap.size q (w.heap.size + 1) 2 30 9 (fun v => #[.bool true, (.slice A4 (k + 1) c4), v, .slice none 0 0]) (.slice Av k cv) (.string t) (.slice A4 (k + 1) c4) (.slice none 0 0) k (strV vs) lz) 3 (f 19) (f 0) w1 := hF 3 (by kernel_rfl)
            clear hF hO hL
            dsimp only at hK ⊢
            generalize hf19 : f 19 = v19 at *
            obtain ⟨rfl, _⟩ := d3
            go_simp
            exact hK.out _ _ (hG.next ((Below.refl _ _).alloc (Nat.le_refl _) _)) ⟨w1.heap.size, rfl, hG.big, (by have := hG.lt3; omega), (fun e => absurd (hG.kl _ e).2 (Nat.lt_irrefl _)), Bk.new w1 _ _⟩ (fun j _ _ h => apF_bel ((Below.refl _ _).alloc (Nat.le_refl _) _) j _ _ h) (fun m _ h => apH_bel ((Below.refl _ _).alloc (Nat.le_refl _) _) m h)
          · -- 5: Op.call ( builtin append, args := #[t17, t20], argTypes := #[22, 22] )
            intro f w1 hG hO hL hF K hK
            have l5 : (apH w.heap.size q (w.heap.size + 1) 30 9 (fun v => #[.bool true, (.slice A4 (k + 1) c4), v, .slice none 0 0]) (.slice Av k cv) k (strV vs) l2) 5 w1 := hL 5 (Nat.le_of_ble_eq_true (by kernel_rfl)) (by kernel_rfl)
            have l7 : (apH w.heap.size q (w.heap.size + 1) 30 9 (fun v => #[.bool true, (.slice A4 (k + 1) c4), v, .slice none 0 0]) (.slice Av k cv) k (strV vs) l2) 7 w1 := hL 7 (Nat.le_of_ble_eq_true (by kernel_rfl)) (by kernel_rfl)
            have d1 : (apF w.heap.size q (w.heap.size + 1) 2 30 9 (fun v => #[.bool true, (.slice A4 (k + 1) c4), v, .slice none 0 0]) (.slice Av k cv) (.string t) (.slice A4 (k + 1) c4) (.slice none 0 0) k (strV vs) lz) 1 (f 17) (f 0) w1 := hF 1 (by kernel_rfl)
            have d4 : (apF w.heap.size q (w.heap.size + 1) 2 30 9 (fun v => #[.bool true, (.slice A4 (k + 1) c4), v, .slice none 0 0]) (.slice Av k cv) (.string t) (.slice A4 (k + 1) c4) (.slice none 0 0) k (strV vs) lz) 4 (f 20) (f 0) w1 := hF 4 (by kernel_rfl)
            clear hF hO hL
            dsimp only at hK ⊢
            generalize hf17 : f 17 = v17 at *
            generalize hf20 : f 20 = v20 at *
            have d1 : v17 = (.slice Av k cv) := d1
            subst d1
            obtain ⟨g, rfl, h0, h1, h2, h3⟩ := d4
            have hcb : ∀ j u, [(.string t)][j]? = some u → w1.cell? ((⟨g, 0, none⟩ : Addr).add j) = some u := fun j u hu => by
              rw [show ((⟨g, 0, none⟩ : Addr).add j) = ⟨g, j, none⟩ by unfold Addr.add; split <;> simp_all, h3.cell j]; simpa using hu
            obtain ⟨v', w2', hrun, hown, hgr, _, hat⟩ := run_append_own_at (P := Try.prog) (w := w1) w.heap.size 27 27 9 i0 _ 1 16 Try.underlying27 hi0 hz0 hz1 hz2 rfl (by decide) (.slice Av k cv) k (strV vs) l5 ⟨g, 0, none⟩ 1 1 [(.string t)] rfl hcb (by intro u hu; simp only [List.mem_singleton] at hu; subst hu; rfl) (by simp only [maxLen]; omega) (by omega) hG.big
            have ap1 : Apart v' (.slice A4 (k + 1) c4) := fun b hb hb2 => by
              rcases hat with h | h
              · exact HAP2.out b (h ▸ hb) hb2
              · rw [h] at hb
                injection hb with hb
                subst hb
                exact absurd (own_ge hG.o1 hb2).2 (Nat.lt_irrefl _)
            have ap2 : Apart v' (.slice none 0 0) := fun b hb hb2 => by
              rcases hat with h | h
              · exact (apart_nil _) b (h ▸ hb) hb2
              · rw [h] at hb
                injection hb with hb
                subst hb
                exact absurd (own_ge hG.o2 hb2).2 (Nat.lt_irrefl _)
            have kn : ∀ {u : Value}, Apart (.slice Av k cv) u → (Value.ownBlock (.slice Av k cv) = none ∨ u.ownBlock ≠ Value.ownBlock (.slice Av k cv)) := fun {u} ha => by
              cases hK : Value.ownBlock (.slice Av k cv) with
              | none => exact Or.inl rfl
              | some b => exact Or.inr (ha b hK)
            have nk3 : Value.ownBlock (.slice Av k cv) ≠ some (w.heap.size + 1) := own_tyne l5 l7 (by decide)
            have nk2 : Value.ownBlock (.slice Av k cv) ≠ some w.heap.size := own_tyne l5 hG.res (by decide)
            refine Lib.wp_append_run w1 _ _ _ _ rfl _ _ rfl rfl _ w2' hrun (hK.out v' w2' (hG.app hgr nk2 (kn HAP2.out) (kn (apart_nil _))) ⟨hown, ap1, ap2⟩ ?_ (fun m hm h => apH_app hgr hG.s1 (fun b e => (hG.kl b e).1) nk3 m hm h))
            intro j hj hdep h
            by_cases h7 : j = 7
            · subst h7
              exact absurd hdep (by rw [show depS _ 7 5 = true by kernel_rfl]; decide)
            · exact apF_app rfl hgr hG.s1 (fun b e => (hG.kl b e).1) j hj h7 _ _ h
          · -- 6: Op.fieldAddr 25 t3 2
            intro f w1 hG hO hL hF K hK
            clear hF hO hL
            dsimp only at hK ⊢
            go_simp
            exact hK.out _ _ hG rfl (fun _ _ _ h => h) (fun _ _ h => h)
          · -- 7: Op.store 22 t22 t21
            intro f w1 hG hO hL hF K hK
            have l7 : (apH w.heap.size q (w.heap.size + 1) 30 9 (fun v => #[.bool true, (.slice A4 (k + 1) c4), v, .slice none 0 0]) (.slice Av k cv) k (strV vs) l2) 7 w1 := hL 7 (Nat.le_of_ble_eq_true (by kernel_rfl)) (by kernel_rfl)
            have d6 : (apF w.heap.size q (w.heap.size + 1) 2 30 9 (fun v => #[.bool true, (.slice A4 (k + 1) c4), v, .slice none 0 0]) (.slice Av k cv) (.string t) (.slice A4 (k + 1) c4) (.slice none 0 0) k (strV vs) lz) 6 (f 22) (f 0) w1 := hF 6 (by kernel_rfl)
            have d5 : (apF w.heap.size q (w.heap.size + 1) 2 30 9 (fun v => #[.bool true, (.slice A4 (k + 1) c4), v, .slice none 0 0]) (.slice Av k cv) (.string t) (.slice A4 (k + 1) c4) (.slice none 0 0) k (strV vs) lz) 5 (f 21) (f 0) w1 := hF 5 (by kernel_rfl)
            clear hF hO hL
            dsimp only at hK ⊢
            generalize hf22 : f 22 = v22 at *
            generalize hf21 : f 21 = v21 at *
            subst d6
            have hd5 : w1.ownsRow w.heap.size 9 1 v21 (k + 1) ((strV vs) ++ [(.string t)]) ∧ Apart v21 (.slice A4 (k + 1) c4) ∧ Apart v21 (.slice none 0 0) := d5
            clear d5
            obtain ⟨A5, c5, rfl, _, _⟩ := own_shape hd5.1
            have hl7 : Bk w1 (w.heap.size + 1) 30 #[.bool true, (.slice A4 (k + 1) c4), (.slice Av k cv), .slice none 0 0] := l7
            have y0 : w1.cell? ⟨(w.heap.size + 1), 2, none⟩ = some (.slice Av k cv) := Bk.cell hl7 2
            have f0 := Bk.frozen hl7 2
            have HD5 := Lib.hid hd5
            have HL7 := Lib.hid hl7
            have HG := Lib.hid hG
            clear hd5 hl7 l7 hG
            go_simp
            refine hK.out undef _ (HG.out.set HL7.out (by decide) (by decide) 2 (.slice A5 (k + 1) c5)) ⟨_, HL7.out.put 2 (.slice A5 (k + 1) c5), own_st HD5.out.1 (Kept1.set w1 (w.heap.size + 1) 2 _) (own_tyne HD5.out.1 HL7.out (by decide)), HD5.out.2⟩ (fun j hj _ h => apF_set HL7.out (by decide) HG.out.s1 HG.out.s3 2 _ j hj _ _ h) (fun m hm h => apH_set HL7.out (by decide) HG.out.s1 HG.out.s3 2 _ m hm h)
          intro f w6 hG hF
          obtain ⟨V', g1, g2', g3', g4'⟩ : apF w.heap.size q (w.heap.size + 1) 2 30 9 (fun v => #[.bool true, (.slice A4 (k + 1) c4), v, .slice none 0 0]) (.slice Av k cv) (.string t) (.slice A4 (k + 1) c4) (.slice none 0 0) k (strV vs) lz 7 undef undef w6 := hF 7 (by decide)
          have f3 : apF w.heap.size q (w.heap.size + 1) 2 30 9 (fun v => #[.bool true, (.slice A4 (k + 1) c4), v, .slice none 0 0]) (.slice Av k cv) (.string t) (.slice A4 (k + 1) c4) (.slice none 0 0) k (strV vs) lz 3 (f 19) (f 0) w6 := hF 3 (by decide)
          have HG := Lib.hid hG
          have HV1 := Lib.hid g1
          have HV2 := Lib.hid g2'
          have HV3 := Lib.hid g3'
          have HV4 := Lib.hid g4'
          have HRd := Lib.hid f3.2
          clear hF hG g1 g2' g3' g4' f3
          dsimp only
          generalize f 16 = v16
          generalize f 17 = v17
          generalize f 18 = v18
          generalize f 19 = v19
          generalize f 20 = v20
          generalize f 21 = v21
          generalize f 22 = v22
          have HNew := Lib.hid (show LfP w q c l1 (k + 1) w6 from ⟨ks ++ [s], vs ++ [t], lz, _, _, ⟨HG.out.kq, HRd.out, HG.out.res, HV1.out, by rw [← strV_append]; exact HG.out.o1, by rw [← strV_append]; exact HV2.out, HV3.out.symm⟩, HL3.out, HPQ.out⟩)
          clear HG HRd HV1 HV2 HV3 HV4
          go_wp2_with fail
          exact ⟨⟨k + 1, by omega, by go_num, HNew.out⟩, by simp [intOf]; omega⟩
    · obtain rfl : k = c := by omega
      have hkk : ¬ (k : Int) < (k : Int) := by omega
      rw [Nat.sub_self] at hP
      have x0 := hS.nd.cell 0
      have x1 := hS.nd.cell 1
      have x2 := hS.nd.cell 2
      have x3 := hS.nd.cell 3
      simp only [List.getElem?_toArray, List.getElem?_cons_zero, List.getElem?_cons_succ] at x0 x1 x2 x3
      have y0 : wr.cell? ⟨w.heap.size, 0, none⟩ = some (.bool false) := hS.res.cell 0
      have y1 : wr.cell? ⟨w.heap.size, 1, none⟩ = some (.slice none 0 0) := hS.res.cell 1
      have y2 : wr.cell? ⟨w.heap.size, 2, none⟩ = some (.slice none 0 0) := hS.res.cell 2
      have y3 : wr.cell? ⟨w.heap.size, 3, none⟩ = some (.slice none 0 0) := hS.res.cell 3
      have f0 := hS.res.frozen 0
      have f1 := hS.res.frozen 1
      have f2 := hS.res.frozen 2
      have f3 := hS.res.frozen 3
      have SET4 : ∀ w', w' = (((wr.setCell ⟨w.heap.size, 0, none⟩ (.bool true)).setCell ⟨w.heap.size, 1, none⟩ (.slice Ak k ck)).setCell ⟨w.heap.size, 2, none⟩ (.slice Av k cv)).setCell ⟨w.heap.size, 3, none⟩ (.slice none 0 0) →
          KQ q w w' ∧ Bk w' w.heap.size 30 #[.bool true, .slice Ak k ck, .slice Av k cv, .slice none 0 0] ∧ Rd w.heap.size w' q l ∧ Seg w' Ak (strV ks) ∧ Seg w' Av (strV vs) := by
        intro w' hw
        have k1 : Kept1 w.heap.size wr w' := by
          rw [hw]
          exact (((Kept1.set wr _ _ _).trans (Kept1.set _ _ _ _)).trans (Kept1.set _ _ _ _)).trans (Kept1.set _ _ _ _)
        have hb : Below w.heap.size wr w' := by
          rw [hw]
          exact ((((Below.refl w.heap.size wr).setCell (p := ⟨w.heap.size, 0, none⟩) (Nat.le_refl _) _).setCell (p := ⟨w.heap.size, 1, none⟩) (Nat.le_refl _) _).setCell (p := ⟨w.heap.size, 2, none⟩) (Nat.le_refl _) _).setCell (p := ⟨w.heap.size, 3, none⟩) (Nat.le_refl _) _
        refine ⟨⟨hS.kq.bel.trans (hb.mono (by omega)), ⟨Nat.le_trans hS.kq.kept.size k1.size, fun b hlt hn => ?_⟩⟩, ?_, hS.rd.other k1 (by omega) (Or.inr (Nat.le_refl _)), Seg.of_own (own_st hS.ok k1 (own_tyne hS.ok hS.res (by decide))), Seg.of_own (own_st hS.ov k1 (own_tyne hS.ov hS.res (by decide)))⟩
        · rw [k1.block b (Nat.lt_of_lt_of_le hlt hS.kq.kept.size) (by omega)]
          exact hS.kq.kept.block b hlt hn
        · rw [hw]
          exact (((hS.res.put 0 (.bool true)).put 1 (.slice Ak k ck)).put 2 (.slice Av k cv)).put 3 (.slice none 0 0)
      have HSET := Lib.hid SET4
      have HP := Lib.hid (show leafP k l1 = some (ks, vs, l) by rw [hP]; show some (ks ++ [], vs ++ [], l) = _; rw [List.append_nil, List.append_nil])
      have HKL := Lib.hid (show ks.length = k from by have := hS.ok.1; rw [strV_length] at this; omega)
      have HVL := Lib.hid (show vs.length = k from by have := hS.ov.1; rw [strV_length] at this; omega)
      have HFK := Lib.hid (own_fresh hS.ok)
      have HFV := Lib.hid (own_fresh hS.ov)
      clear hS hlt hP hsk hsv SET4
      go_wp2_with fail
      generalize hwf : (((wr.setCell ⟨w.heap.size, 0, none⟩ (.bool true)).setCell ⟨w.heap.size, 1, none⟩ (.slice Ak k ck)).setCell ⟨w.heap.size, 2, none⟩ (.slice Av k cv)).setCell ⟨w.heap.size, 3, none⟩ (.slice none 0 0) = wf
      obtain ⟨g1, g2, g3, g4, g5⟩ := HSET.out wf hwf.symm
      clear hwf
      have z0 : wf.cell? ⟨w.heap.size, 0, none⟩ = some (.bool true) := g2.cell 0
      have z1 : wf.cell? ⟨w.heap.size, 1, none⟩ = some (.slice Ak k ck) := g2.cell 1
      have z2 : wf.cell? ⟨w.heap.size, 2, none⟩ = some (.slice Av k cv) := g2.cell 2
      have z3 : wf.cell? ⟨w.heap.size, 3, none⟩ = some (.slice none 0 0) := g2.cell 3
      refine bodyPost_ret (v := .agg #[.bool true, .slice Ak k ck, .slice Av k cv, .slice none 0 0]) (by simp [results, Try.results46, go_sem, z0, z1, z2, z3]) rfl ⟨g1, ?_⟩
      rw [HP.out]
      exact ⟨Ak, Av, none, ck, cv, 0, by rw [HKL.out, HVL.out]; rfl, g4, g5, Seg.nil _ _, HFK.out, HFV.out, (fun a e => by cases e), by rw [HKL.out]; exact hck, by rw [HVL.out]; exact hcv, Nat.le_refl _, g3⟩
end Go.Proofs.Ytopkkolcimmedaa
