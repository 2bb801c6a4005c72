/- WsBehind. Conditions: the bytes lie in memory; the tables of UTF-8 are laid. -/
import Derived.Test.YtnbhgjionpidnaaDoorSWake
namespace Go.Proofs.YtnbhgjionpidnaaDoor
open Go.RowKit

abbrev st0 : Option (Nat × ByteArray × List Nat) := some (0, ⟨#[]⟩, [])
theorem st0_b (z : Nat) : StB z st0 := fun k t l e => by
  simp only [Option.some.injEq, Prod.mk.injEq] at e
  obtain ⟨rfl, rfl, rfl⟩ := e
  exact ⟨by decide, by decide, Nat.zero_le _, fun x hx => by cases hx⟩
theorem feedN_0 (mk : Bool) (l : List Nat) : feedN mk st0 l = runN mk (l.length + 1) 0 ⟨#[]⟩ l := rfl
/-- A beginning of the bytes comes to a beginning of the items. -/
theorem feedN_take (mk : Bool) (l : List Nat) (m : Nat) : ∃ Z, (feedN mk st0 l).1 = (feedN mk st0 (l.take m)).1 ++ Z := by
  rw [feedN_0, feedN_0]
  have h := runN_append mk ((l.take m).length + 1) 0 ⟨#[]⟩ (l.take m) (l.drop m) (Nat.lt_succ_self _)
  rw [List.take_append_drop] at h
  rw [show l.length + 1 = (l.take m).length + 1 + (l.drop m).length by rw [List.length_take, List.length_drop]; omega, h]
  cases hr : (runN mk ((l.take m).length + 1) 0 ⟨#[]⟩ (l.take m)).2 with
  | none => exact ⟨[], by rw [List.append_nil]⟩
  | some q =>
    obtain ⟨k, t, r⟩ := q
    exact ⟨_, rfl⟩
theorem feedN_last (mk : Bool) (l : List Nat) (j : Nat) (it : ItM) (h : (feedN mk st0 l).1[j]? = some it) (hk : it.kind = 0 ∨ it.kind = 8) : j + 1 = (feedN mk st0 l).1.length := by
  rw [feedN_0] at h ⊢
  exact runN_last mk _ 0 ⟨#[]⟩ l (by decide) (by decide) j it h hk
theorem feedN_count (mk : Bool) (l : List Nat) : (feedN mk st0 l).1.length ≤ l.length + 1 := by
  rw [feedN_0]
  exact runN_count mk _ _ _ _
/-- A row in memory, made behind a world of this size. -/
def RowS (z : Nat) (w : World) (v : Value) (n : Nat) (xs : List Value) : Prop := ∃ A c, v = .slice A n c ∧ n ≤ c ∧ Seg w A xs ∧ ∀ a, A = some a → z ≤ a.block
theorem RowS.of_own {w : World} {B z n size : Nat} {e : TypeId} {v : Value} {xs : List Value} (h : w.ownsRow B e size v n xs) (hz : z ≤ B) : RowS z w v n xs := by
  obtain ⟨A, c, rfl, h1, h2, h3⟩ := own_seg h
  exact ⟨A, c, rfl, h1, h2, fun a e => Nat.le_trans hz (h3 a e).1⟩
theorem RowS.bel {w w' : World} {z n : Nat} {v : Value} {xs : List Value} (h : RowS z w v n xs) (hb : Below w.heap.size w w') : RowS z w' v n xs := by
  obtain ⟨A, c, rfl, h1, h2, h3⟩ := h
  exact ⟨A, c, rfl, h1, h2.bel hb, h3⟩
theorem RowS.kq {w w' : World} {g z n : Nat} {v : Value} {xs : List Value} (h : RowS z w v n xs) (k : KQ g w w') (hg : g < z) : RowS z w' v n xs := by
  obtain ⟨A, c, rfl, h1, h2, h3⟩ := h
  exact ⟨A, c, rfl, h1, h2.kept k.kept (fun a e => by have := h3 a e; omega), h3⟩
abbrev rd0 (mk : Bool) : Array Value := rdC mk (.slice none 0 0) 0 ⟨#[]⟩ false
theorem rds0 {gr : Nat} {mk : Bool} {w : World} (h : Bk w gr 59 (rd0 mk)) : RdS 0 gr mk st0 w := ⟨none, 0, h, Nat.le_refl _, Seg.nil _ _, fun a e => by cases e⟩
def bhG (w0 : World) (A : Option Addr) (l : List Nat) (z : Nat) (w : World) : Prop := Below w0.heap.size w0 w ∧ Seg w A (u8s l) ∧ z ≤ w.heap.size
def bhF (gr gs : Nat) (A : Option Addr) (n c m : Nat) (l : List Nat) (X Y : List ItM) (z : Nat) (j : Nat) (v _u : Value) (w : World) : Prop := match j with
  | 0 => v = .pointer (some ⟨gr, 0, none⟩)
  | 1 => v = .slice A n c
  | 2 => RowS z w v n (u8s l)
  | 3 => RowS z w v X.length (itsL X)
  | 4 => RowS z w v X.length (itsL X)
  | 5 => v = .pointer (some ⟨gs, 0, none⟩)
  | 6 => v = .slice A n c
  | 7 => v = .int .i64 (m : Nat)
  | 8 => v = .slice A m c
  | 9 => RowS z w v m (u8s (l.take m))
  | 10 => RowS z w v Y.length (itsL Y)
  | 11 => RowS z w v Y.length (itsL Y)
  | 12 => RowS z w v X.length (itsL X)
  | 13 => RowS z w v Y.length (itsL Y)
  | _ => True
def bhH (gr gs : Nat) (mk : Bool) (m : Nat) (w : World) : Prop := match m with
  | 3 => Bk w gr 59 (rd0 mk)
  | 10 => Bk w gs 59 (rd0 mk)
  | _ => True
section
variable {w0 w w' : World} {gr gs n c m z : Nat} {mk : Bool} {A : Option Addr} {l : List Nat} {X Y : List ItM}
theorem bhG.bel (h : bhG w0 A l z w) (hb : Below w.heap.size w w') : bhG w0 A l z w' := ⟨h.1.trans (hb.mono h.1.size), h.2.1.bel hb, Nat.le_trans h.2.2 hb.size⟩
theorem bhG.kq {g : Nat} (h : bhG w0 A l z w) (k : KQ g w w') (hg : w0.heap.size ≤ g) (hA : ∀ a, A = some a → a.block ≠ g) : bhG w0 A l z w' := ⟨h.1.trans (k.bel.mono hg), h.2.1.kept k.kept hA, Nat.le_trans h.2.2 k.kept.size⟩
theorem bhF_bel (hb : Below w.heap.size w w') : ∀ j u u', bhF gr gs A n c m l X Y z j u u' w → bhF gr gs A n c m l X Y z j u u' w' := by
  intro j u u' h
  unfold bhF at *
  split at h <;> first | exact h | exact h.bel hb
theorem bhF_kq {g : Nat} (k : KQ g w w') (hg : g < z) : ∀ j u u', bhF gr gs A n c m l X Y z j u u' w → bhF gr gs A n c m l X Y z j u u' w' := by
  intro j u u' h
  unfold bhF at *
  split at h <;> first | exact h | exact h.kq k hg
theorem bhH_bel (hb : Below w.heap.size w w') : ∀ m, bhH gr gs mk m w → bhH gr gs mk m w' := by
  intro m h
  unfold bhH at *
  split at h <;> first | exact h | exact h.bel hb
theorem bhH_r (k : KQ gr w w') (hg : gs ≠ gr) : ∀ m, m ≠ 3 → bhH gr gs mk m w → bhH gr gs mk m w' := by
  intro m hm h
  unfold bhH at *
  split at h <;> first | exact absurd rfl hm | exact h | exact bk_kept h hg k.kept
theorem bhH_s (k : KQ gs w w') (hg : gr ≠ gs) : ∀ m, m ≠ 10 → bhH gr gs mk m w → bhH gr gs mk m w' := by
  intro m hm h
  unfold bhH at *
  split at h <;> first | exact absurd rfl hm | exact h | exact bk_kept h hg k.kept
end
set_option maxRecDepth 100000 in
set_option maxHeartbeats 4000000 in
theorem behind_any (A0 : Option Addr) (n0 c0 : Nat) (l0 : List Nat) (mk : Bool) (nn : Int) (hn0 : n0 = l0.length) (hc0 : n0 ≤ c0) (hz0 : n0 ≤ 140737488355328) (hl0 : ∀ x ∈ l0, x < 256) (hb1 : -9223372036854775808 ≤ nn) (hb2 : nn ≤ 9223372036854775807) (w : World) (hT : Tabs w) (hA0 : Seg w A0 (u8s l0)) :
    Calls Tryd.prog 8 #[.slice A0 n0 c0, .bool mk, .int .i64 nn] w fun e w' => e = .returned (.bool true) ∧ Below w.heap.size w w' := by
  have CF := Lib.hid (few_any l0 A0 n0 c0 hn0 hc0 hz0 w hA0)
  obtain ⟨l, hl⟩ : ∃ l, l = l0.take 6000 := ⟨_, rfl⟩
  rw [← hl] at CF
  have HL := Lib.hid (show ∀ x ∈ l, x < 256 from fun x hx => hl0 x (List.mem_of_mem_take (by rw [← hl]; exact hx)))
  have hN6 : l.length ≤ 6000 := by rw [hl, List.length_take]; omega
  obtain ⟨n, hn⟩ : ∃ n, n = l.length := ⟨_, rfl⟩
  rw [← hn] at CF hN6
  have HN := Lib.hid hn
  have HT := Lib.hid hT
  clear hn0 hc0 hz0 hl0 hT hA0 hl hn
  go_enter Tryd.func8, Tryd.ntmps8
  go_upto_region 2 with (go_at_call 17; refine CF.out.mono ?_; rintro e w1 ⟨v, rfl, ho, hb⟩; obtain ⟨A, c, rfl, hc, hs, ha⟩ := own_seg ho; have HC := Lib.hid hc; have HS := Lib.hid hs; have HA := Lib.hid ha; have HB := Lib.hid hb; clear ho hc hs ha hb CF)
  have hnc : n ≤ c := HC.out
  go_cut [2] (fun s wx => ∃ m : Nat, m ≤ n ∧ s = .int .i64 (m : Int) ∧ wx = w1)
  case first =>
    by_cases h1 : nn < 0
    · have i1 : min nn (n : Int) = nn := by omega
      have i2 : max 0 nn = 0 := by omega
      have i3 : nn < (n : Int) := by omega
      have i4 : ¬ (n : Int) < nn := by omega
      have i5 : ¬ (0 : Int) < nn := by omega
      go_wp2_with fail
      all_goals (go_meet; exact ⟨0, Nat.zero_le _, rfl, rfl⟩)
    · by_cases h2 : nn ≤ (n : Int)
      · obtain ⟨m, rfl⟩ : ∃ m : Nat, nn = (m : Int) := ⟨nn.toNat, by omega⟩
        have i4 : ¬ (n : Int) < (m : Int) := by omega
        have i5 : ¬ (m : Int) < 0 := by omega
        go_wp2_with fail
        all_goals (go_meet; refine ⟨m, by omega, ?_, rfl⟩; first | rfl | (congr 1; omega))
      · have i4 : (n : Int) < nn := by omega
        have i5 : ¬ nn ≤ (n : Int) := by omega
        go_wp2_with fail
        all_goals (go_meet; refine ⟨n, Nat.le_refl _, ?_, rfl⟩; first | rfl | (congr 1; omega))
  case rest =>
    obtain ⟨m, hm, rfl, rfl⟩ := hcut
    have hmn : (m : Int) ≤ (n : Int) := by omega
    have hmc : m ≤ c := by omega
    go_wp2_with fail
    refine (newReader_any mk wc).mono ?_
    rintro e w2 ⟨rfl, r2, b2⟩
    obtain ⟨gr, hgr⟩ : ∃ x, x = wc.heap.size := ⟨_, rfl⟩
    rw [← hgr] at r2
    rw [← hgr]
    have HR2 := Lib.hid r2
    have HB2 := Lib.hid b2
    have HGR := Lib.hid hgr
    clear r2 b2 hgr
    go_wp2_with fail
    refine (newReader_any mk w2).mono ?_
    rintro e w3 ⟨rfl, r3, b3⟩
    obtain ⟨gs, hgs⟩ : ∃ x, x = w2.heap.size := ⟨_, rfl⟩
    rw [← hgs] at r3
    rw [← hgs]
    have HR3 := Lib.hid r3
    have HRR := Lib.hid (HR2.out.bel b3)
    have HBW := Lib.hid (show Below w.heap.size w w3 from (HB.out.trans (HB2.out.mono HB.out.size)).trans (b3.mono (Nat.le_trans HB.out.size HB2.out.size)))
    have HGG := Lib.hid (show w.heap.size ≤ gr ∧ gr < gs ∧ gs < w3.heap.size ∧ ∀ a, A = some a → a.block < gr from ⟨by have := HB.out.size; have := HGR.out; omega, by have := HR2.out.lt; omega, r3.lt, fun a e => by have := (HA.out a e).2; have := HGR.out; omega⟩)
    have HSW := Lib.hid ((HS.out.bel HB2.out).bel b3)
    clear r3 b3 hgs HR2 HS HA
    go_upto_region 6 with fail
    obtain ⟨X, hX⟩ : ∃ X, X = (feedN mk st0 l).1 := ⟨_, rfl⟩
    obtain ⟨Y, hY⟩ : ∃ Y, Y = (feedN mk st0 (l.take m)).1 := ⟨_, rfl⟩
    have HX := Lib.hid hX
    have HY := Lib.hid hY
    have GD := Lib.hid (show bhG w A l w3.heap.size w3.drew from ⟨HBW.out.drew, HSW.out, Nat.le_refl _⟩)
    have HD := Lib.hid (show ∀ q, q < 14 → bhH gr gs mk q w3.drew from fun q _ => by
      unfold bhH
      split
      · exact HRR.out.bel (Below.refl _ _).drew
      · exact HR3.out.bel (Below.refl _ _).drew
      · trivial)
    have HML := Lib.hid (show (l.take m).length = m by rw [List.length_take, ← HN.out]; omega)
    clear hX hY
    have HCX := Lib.hid (show X.length ≤ 6001 by rw [HX.out]; have := feedN_count mk l; have := HN.out; omega)
    have HCY := Lib.hid (show Y.length ≤ 6001 by rw [HY.out]; have := feedN_count mk (l.take m); have := HML.out; omega)
    refine wp_region_late [some 30, some 31, some 32, some 33, some 34, some 35, some 36, some 37, some 38, some 39, some 40, some 41, some 9, some 10] (fun _ => 0) (bhF gr gs A n c m l X Y w3.heap.size) (bhG w A l w3.heap.size) (bhH gr gs mk) (by kernel_rfl) GD.out HD.out rfl (by kernel_rfl) (by kernel_rfl) (by kernel_rfl) (by kernel_rfl) (fun T hT => ?_)
    simp only [List.filterMap_cons, List.filterMap_nil, id, putsS, Act.put, List.setIfInBounds_toArray, List.set_cons_zero, List.set_cons_succ] at hT
    subst hT
    refine ⟨⟨?_, ?_, ?_, ?_, ?_, ?_, ?_, ?_, ?_, ?_, ?_, ?_, ?_, ?_, trivial⟩, ?_⟩
    · -- 0: Op.move t7
      intro f w1 hG hO hL hF K hK
      clear hF hO hL
      dsimp only at hK ⊢
      go_simp
      exact hK.out _ _ hG rfl (fun _ _ _ h => h) (fun _ _ h => h)
    · -- 1: Op.move t0
      intro f w1 hG hO hL hF K hK
      clear hF hO hL
      dsimp only at hK ⊢
      go_simp
      exact hK.out _ _ hG rfl (fun _ _ _ h => h) (fun _ _ h => h)
    · -- 2: Op.call ( value (Operand.func 17), args := #[t31], argTypes := #[25] )
      intro f w1 hG hO hL hF K hK
      have d1 : (bhF gr gs A n c m l X Y w3.heap.size) 1 (f 31) (f 0) w1 := hF 1 (by kernel_rfl)
      clear hF hO hL
      dsimp only at hK ⊢
      generalize hf31 : f 31 = v31 at *
      subst d1
      go_simp
      refine (few_any (l) A n c HN.out HC.out (by omega) w1 hG.2.1).mono ?_
      rintro e w21 ⟨v, rfl, ho, hb⟩
      rw [List.take_of_length_le (by have := HN.out; omega : l.length ≤ 6000), ← HN.out] at ho
      exact hK.out _ _ (bhG.bel hG hb) (RowS.of_own ho hG.2.2) (fun j _ _ h => bhF_bel hb j _ _ h) (fun q _ h => bhH_bel hb q h)
    · -- 3: Op.call ( value (Operand.func 19), args := #[t30, t32], argTypes := #[37, 25] )
      intro f w1 hG hO hL hF K hK
      have l3 : (bhH gr gs mk) 3 w1 := hL 3 (Nat.le_of_ble_eq_true (by kernel_rfl)) (by kernel_rfl)
      have d0 : (bhF gr gs A n c m l X Y w3.heap.size) 0 (f 30) (f 0) w1 := hF 0 (by kernel_rfl)
      have d2 : (bhF gr gs A n c m l X Y w3.heap.size) 2 (f 32) (f 0) w1 := hF 2 (by kernel_rfl)
      clear hF hO hL
      dsimp only at hK ⊢
      generalize hf30 : f 30 = v30 at *
      generalize hf32 : f 32 = v32 at *
      subst d0
      obtain ⟨A1, c1, rfl, h1, h2, h3⟩ := d2
      go_simp
      refine (feed_any gr mk st0 0 A1 n c1 (l) HN.out (by omega) (st0_b _) HL.out w1 ⟨w, HT.out, hG.1, by have := HGG.out; omega⟩ (rds0 l3) h2).mono ?_
      rintro e w21 ⟨hk, v, rfl, ho, _⟩
      rw [← HX.out] at ho
      exact hK.out _ _ (bhG.kq hG hk (by have := HGG.out; omega) (fun a e => by have := HGG.out.2.2.2 a e; have := HGG.out; omega)) (RowS.of_own ho hG.2.2) (fun j _ _ h => bhF_kq hk (by have := HGG.out; omega) j _ _ h) (fun q hq h => bhH_r hk (by have := HGG.out; omega) q hq h)
    · -- 4: Op.call ( value (Operand.func 18), args := #[t33], argTypes := #[42] )
      intro f w1 hG hO hL hF K hK
      have d3 : (bhF gr gs A n c m l X Y w3.heap.size) 3 (f 33) (f 0) w1 := hF 3 (by kernel_rfl)
      clear hF hO hL
      dsimp only at hK ⊢
      generalize hf33 : f 33 = v33 at *
      obtain ⟨A1, c1, rfl, h1, h2, h3⟩ := d3
      go_simp
      refine (told_any X A1 _ c1 rfl (Nat.le_trans (HCX.out) (by decide)) w1 h2).mono ?_
      rintro e w21 ⟨v, rfl, ho, hb⟩
      exact hK.out _ _ (bhG.bel hG hb) (RowS.of_own ho hG.2.2) (fun j _ _ h => bhF_bel hb j _ _ h) (fun q _ h => bhH_bel hb q h)
    · -- 5: Op.move t8
      intro f w1 hG hO hL hF K hK
      clear hF hO hL
      dsimp only at hK ⊢
      go_simp
      exact hK.out _ _ hG rfl (fun _ _ _ h => h) (fun _ _ h => h)
    · -- 6: Op.move t0
      intro f w1 hG hO hL hF K hK
      clear hF hO hL
      dsimp only at hK ⊢
      go_simp
      exact hK.out _ _ hG rfl (fun _ _ _ h => h) (fun _ _ h => h)
    · -- 7: Op.move t2
      intro f w1 hG hO hL hF K hK
      clear hF hO hL
      dsimp only at hK ⊢
      go_simp
      exact hK.out _ _ hG rfl (fun _ _ _ h => h) (fun _ _ h => h)
    · -- 8: Op.slice 25 t36 none (some t37) none
      intro f w1 hG hO hL hF K hK
      have d6 : (bhF gr gs A n c m l X Y w3.heap.size) 6 (f 36) (f 0) w1 := hF 6 (by kernel_rfl)
      have d7 : (bhF gr gs A n c m l X Y w3.heap.size) 7 (f 37) (f 0) w1 := hF 7 (by kernel_rfl)
      clear hF hO hL
      dsimp only at hK ⊢
      generalize hf36 : f 36 = v36 at *
      generalize hf37 : f 37 = v37 at *
      subst d6
      subst d7
      go_simp
      exact hK.out _ _ hG rfl (fun _ _ _ h => h) (fun _ _ h => h)
    · -- 9: Op.call ( value (Operand.func 17), args := #[t38], argTypes := #[25] )
      intro f w1 hG hO hL hF K hK
      have d8 : (bhF gr gs A n c m l X Y w3.heap.size) 8 (f 38) (f 0) w1 := hF 8 (by kernel_rfl)
      clear hF hO hL
      dsimp only at hK ⊢
      generalize hf38 : f 38 = v38 at *
      subst d8
      go_simp
      refine (few_any (l.take m) A m c HML.out.symm (by omega) (by omega) w1 (by have := hG.2.1.take m; rwa [show (u8s l).take m = u8s (l.take m) by simp [u8s, List.map_take]] at this)).mono ?_
      rintro e w21 ⟨v, rfl, ho, hb⟩
      rw [List.take_of_length_le (by have := HML.out; omega : (l.take m).length ≤ 6000), HML.out] at ho
      exact hK.out _ _ (bhG.bel hG hb) (RowS.of_own ho hG.2.2) (fun j _ _ h => bhF_bel hb j _ _ h) (fun q _ h => bhH_bel hb q h)
    · -- 10: Op.call ( value (Operand.func 19), args := #[t35, t39], argTypes := #[37, 25] )
      intro f w1 hG hO hL hF K hK
      have l10 : (bhH gr gs mk) 10 w1 := hL 10 (Nat.le_of_ble_eq_true (by kernel_rfl)) (by kernel_rfl)
      have d5 : (bhF gr gs A n c m l X Y w3.heap.size) 5 (f 35) (f 0) w1 := hF 5 (by kernel_rfl)
      have d9 : (bhF gr gs A n c m l X Y w3.heap.size) 9 (f 39) (f 0) w1 := hF 9 (by kernel_rfl)
      clear hF hO hL
      dsimp only at hK ⊢
      generalize hf35 : f 35 = v35 at *
      generalize hf39 : f 39 = v39 at *
      subst d5
      obtain ⟨A1, c1, rfl, h1, h2, h3⟩ := d9
      go_simp
      refine (feed_any gs mk st0 0 A1 m c1 (l.take m) HML.out.symm (by omega) (st0_b _) (fun x hx => HL.out x (List.mem_of_mem_take hx)) w1 ⟨w, HT.out, hG.1, by have := HGG.out; omega⟩ (rds0 l10) h2).mono ?_
      rintro e w21 ⟨hk, v, rfl, ho, _⟩
      rw [← HY.out] at ho
      exact hK.out _ _ (bhG.kq hG hk (by have := HGG.out; omega) (fun a e => by have := HGG.out.2.2.2 a e; have := HGG.out; omega)) (RowS.of_own ho hG.2.2) (fun j _ _ h => bhF_kq hk (by have := HGG.out; omega) j _ _ h) (fun q hq h => bhH_s hk (by have := HGG.out; omega) q hq h)
    · -- 11: Op.call ( value (Operand.func 18), args := #[t40], argTypes := #[42] )
      intro f w1 hG hO hL hF K hK
      have d10 : (bhF gr gs A n c m l X Y w3.heap.size) 10 (f 40) (f 0) w1 := hF 10 (by kernel_rfl)
      clear hF hO hL
      dsimp only at hK ⊢
      generalize hf40 : f 40 = v40 at *
      obtain ⟨A1, c1, rfl, h1, h2, h3⟩ := d10
      go_simp
      refine (told_any Y A1 _ c1 rfl (Nat.le_trans (HCY.out) (by decide)) w1 h2).mono ?_
      rintro e w21 ⟨v, rfl, ho, hb⟩
      exact hK.out _ _ (bhG.bel hG hb) (RowS.of_own ho hG.2.2) (fun j _ _ h => bhF_bel hb j _ _ h) (fun q _ h => bhH_bel hb q h)
    · -- 12: Op.assign t34
      intro f w1 hG hO hL hF K hK
      have d4 : (bhF gr gs A n c m l X Y w3.heap.size) 4 (f 34) (f 0) w1 := hF 4 (by kernel_rfl)
      clear hF hO hL
      dsimp only at hK ⊢
      generalize hf34 : f 34 = v34 at *
      obtain ⟨A1, c1, rfl, h1, h2, h3⟩ := d4
      go_simp
      exact hK.out _ _ hG ⟨A1, c1, rfl, h1, h2, h3⟩ (fun _ _ _ h => h) (fun _ _ h => h)
    · -- 13: Op.assign t41
      intro f w1 hG hO hL hF K hK
      have d11 : (bhF gr gs A n c m l X Y w3.heap.size) 11 (f 41) (f 0) w1 := hF 11 (by kernel_rfl)
      clear hF hO hL
      dsimp only at hK ⊢
      generalize hf41 : f 41 = v41 at *
      obtain ⟨A1, c1, rfl, h1, h2, h3⟩ := d11
      go_simp
      exact hK.out _ _ hG ⟨A1, c1, rfl, h1, h2, h3⟩ (fun _ _ _ h => h) (fun _ _ h => h)
    intro f w7 hG hF
    have R12 : RowS w3.heap.size w7 (f 9) X.length (itsL X) := hF 12 (by decide)
    have R13 : RowS w3.heap.size w7 (f 10) Y.length (itsL Y) := hF 13 (by decide)
    clear hF
    obtain ⟨Ax, cx, ex, hcx, hsx, hax⟩ := R12
    obtain ⟨Ay, cy, ey, hcy, hsy, hay⟩ := R13
    obtain ⟨nx, hnx⟩ : ∃ x, x = X.length := ⟨_, rfl⟩
    obtain ⟨ny, hny⟩ : ∃ x, x = Y.length := ⟨_, rfl⟩
    rw [← hnx] at ex hcx
    rw [← hny] at ey hcy
    dsimp only
    rw [ex, ey]
    generalize f 30 = v30
    generalize f 31 = v31
    generalize f 32 = v32
    generalize f 33 = v33
    generalize f 34 = v34
    generalize f 35 = v35
    generalize f 36 = v36
    generalize f 37 = v37
    generalize f 38 = v38
    generalize f 39 = v39
    generalize f 40 = v40
    generalize f 41 = v41
    have HNX := Lib.hid hnx
    have HNY := Lib.hid hny
    have HSX := Lib.hid hsx
    have HSY := Lib.hid hsy
    have HB7 := Lib.hid hG.1
    have hx6 : nx ≤ 6001 := by
      rw [hnx, HX.out]
      have := feedN_count mk l
      have := HN.out
      omega
    have HLE := Lib.hid (show ∃ Z, X = Y ++ Z by rw [HX.out, HY.out]; exact feedN_take mk l m)
    have hyx : ny ≤ nx := by
      obtain ⟨Z, hZ⟩ := HLE.out
      rw [hnx, hny, hZ, List.length_append]
      omega
    have HTK := Lib.hid (show X.take ny = Y by
      obtain ⟨Z, hZ⟩ := HLE.out
      rw [hZ, hny]
      exact List.take_left)
    clear hnx hny hsx hsy hax hay ex ey hG GD HD HRR HR3
    have HLAST := Lib.hid (show ∀ (k : Nat) (hk : k < X.length), (X[k].kind = 0 ∨ X[k].kind = 8) → k + 1 = nx from fun k hk hx => by
      have e : X[k]? = some X[k] := List.getElem?_eq_getElem hk
      have h := feedN_last mk l k X[k] (by rw [← HX.out]; exact e) hx
      rw [← HX.out] at h
      rw [HNX.out]
      exact h)
    clear HLE
    go_wp2_with fail
    go_loopw [11, 12, 44] (fun _ _ i wr => ∃ k : Nat, k ≤ nx ∧ i = .int .i64 k ∧ Hid (Below w7.heap.size w7 wr)) (fun _ _ i _ => nx - (intOf i).toNat)
    case atStart => exact ⟨0, Nat.zero_le _, rfl, Lib.hid (Below.refl _ _)⟩
    case round =>
      obtain ⟨k, hk, rfl, HBK⟩ := hrel
      by_cases hlt : k < nx
      · have hkl : k < X.length := by have := HNX.out; omega
        obtain ⟨b, off, hAe, hbl, q0, q1, q2⟩ := its_at (HSX.out.bel HBK.out) hkl
        subst hAe
        have i1 : (0 : Int) ≤ (k : Int) := by omega
        have i2 : (k : Int) < (nx : Int) := by omega
        have HLK := Lib.hid (HLAST.out k hkl)
        obtain ⟨ik, hik⟩ : ∃ x, x = X[k].kind := ⟨_, rfl⟩
        obtain ⟨it, hit⟩ : ∃ x, x = X[k].text := ⟨_, rfl⟩
        obtain ⟨ic, hic⟩ : ∃ x, x = X[k].code := ⟨_, rfl⟩
        rw [← hik] at q0 HLK
        rw [← hit] at q1
        rw [← hic] at q2
        obtain ⟨w8, hw8⟩ : ∃ x, x = wr.alloc (.cells #[.int .i64 (ik : Nat), .string it, .int .i64 (ic : Nat)] 46) := ⟨_, rfl⟩
        obtain ⟨g, hg⟩ : ∃ x, x = wr.heap.size := ⟨_, rfl⟩
        have hX8 : Bk w8 g 46 #[.int .i64 (ik : Nat), .string it, .int .i64 (ic : Nat)] := by rw [hw8, hg]; exact Bk.new wr _ _
        have y0 : w8.cell? ⟨g, 0, none⟩ = some (.int .i64 (ik : Nat)) := hX8.cell 0
        have HB8 := Lib.hid (show Below w7.heap.size w7 w8 by rw [hw8]; exact HBK.out.alloc HBK.out.size _)
        have HG := Lib.hid hg
        have HW8 := Lib.hid hw8
        clear hik hit hic hw8 hX8 hg HBK
        go_upto_region 10 with fail
        rw [← HG.out, ← HW8.out]
        clear q0 q1 q2
        by_cases h0 : ik = 0
        · subst h0
          have i3 : ¬ (k : Int) + 1 < (nx : Int) := by have := HLK.out (Or.inl rfl); omega
          clear HLK
          go_wp2_with fail
          go_roundw
          case rel => exact ⟨k + 1, by omega, rfl, HB8⟩
          case measure => simp [intOf]; omega
        · by_cases h8 : ik = 8
          · subst h8
            have i3 : ¬ (k : Int) + 1 < (nx : Int) := by have := HLK.out (Or.inr rfl); omega
            clear HLK
            go_wp2_with fail
            go_roundw
            case rel => exact ⟨k + 1, by omega, rfl, HB8⟩
            case measure => simp [intOf]; omega
          · have i3 : ((ik : Int) == 0) = false := by simpa using h0
            have i4 : ((ik : Int) == 8) = false := by simp; omega
            clear HLK
            go_wp2_with fail
            go_roundw
            case rel => exact ⟨k + 1, by omega, rfl, HB8⟩
            case measure => simp [intOf]; omega
      · obtain rfl : k = nx := by omega
        have i1 : ¬ (k : Int) < (k : Int) := by omega
        have hB9 := HB7.out.trans (HBK.out.mono HB7.out.size)
        have CA := Lib.hid (awake_any wr (HT.out.bel hB9))
        have HB9 := Lib.hid hB9
        have i5 : (ny : Int) ≤ (k : Int) := by omega
        have i6 : ny ≤ cx := by omega
        have CS := Lib.hid (fun (w' : World) (hb : Below w7.heap.size w7 w') => isame_any Y Ay Ax ny cy cx HNY.out (by omega) w' (HSY.out.bel hb) (by have := its_take HSX.out ny; rw [HTK.out] at this; exact this.bel hb))
        clear hB9 HLAST
        go_wp2_with fail
        refine CA.out.mono ?_
        rintro e w8 ⟨rfl, hb8⟩
        have CS2 := Lib.hid (CS.out w8 (HBK.out.trans (hb8.mono HBK.out.size)))
        have HB10 := Lib.hid (HB9.out.trans (hb8.mono HB9.out.size))
        clear hb8
        go_wp2_with fail
        refine CS2.out.mono ?_
        rintro e w9 ⟨rfl, hb9⟩
        have HB11 := Lib.hid (HB10.out.trans (hb9.mono HB10.out.size))
        clear hb9
        go_wp2_with fail
        go_ret
        exact ⟨rfl, HB11.out⟩
end Go.Proofs.YtnbhgjionpidnaaDoor
