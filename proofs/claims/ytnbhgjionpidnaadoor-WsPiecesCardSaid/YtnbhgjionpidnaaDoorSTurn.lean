/- bytes.Clone; a mask laid on bytes. Condition: the bytes lie in memory. -/
import Derived.Test.YtnbhgjionpidnaaDoorSNum
import Derived.Lib.LazyBuf
import Derived.BigQuiet
import Derived.Deep.QuietTactic
import Derived.WalkLawsBesides
namespace Go.Proofs.YtnbhgjionpidnaaDoor
open Go.RowKit
variable {B : Nat}

theorem addr_add (g j : Nat) : ((⟨g, 0, none⟩ : Addr).add j) = ⟨g, j, none⟩ := by unfold Addr.add; split <;> simp_all
/-- Byte i xor mask i % 4. -/
def xorFrom (m : Nat → Nat) : Nat → List Nat → List Nat
  | _, [] => []
  | i, x :: l => (x ^^^ m (i % 4)) :: xorFrom m (i + 1) l
def xorN (m : Nat → Nat) (l : List Nat) : List Nat := xorFrom m 0 l
theorem xorFrom_length (m : Nat → Nat) : ∀ (i : Nat) (l : List Nat), (xorFrom m i l).length = l.length
  | _, [] => rfl
  | i, _ :: l => by show (xorFrom m (i + 1) l).length + 1 = _; rw [xorFrom_length m (i + 1) l]; rfl
theorem xorN_length (m : Nat → Nat) (l : List Nat) : (xorN m l).length = l.length := xorFrom_length m 0 l
theorem xorFrom_at (m : Nat → Nat) : ∀ (i : Nat) (l : List Nat) (k : Nat) (hk : k < l.length), (xorFrom m i l)[k]? = some (l[k] ^^^ m ((i + k) % 4))
  | _, [], k, hk => by simp at hk
  | i, x :: l, 0, _ => rfl
  | i, x :: l, k + 1, hk => by
    have := xorFrom_at m (i + 1) l k (by simpa using hk)
    show (xorFrom m (i + 1) l)[k]? = _
    rw [this, show i + 1 + k = i + (k + 1) by omega]; rfl
theorem xor_lt {a b : Nat} (ha : a < 256) (hb : b < 256) : a ^^^ b < 256 := Nat.xor_lt_two_pow (n := 8) ha hb
theorem xorFrom_lt {m : Nat → Nat} (hm : ∀ i, i < 4 → m i < 256) : ∀ (i : Nat) (l : List Nat), (∀ x ∈ l, x < 256) → ∀ x ∈ xorFrom m i l, x < 256
  | _, [], _, x, hx => by cases hx
  | i, y :: l, h, x, hx => by
    rcases List.mem_cons.1 hx with rfl | hx
    · exact xor_lt (h y (List.mem_cons_self ..)) (hm _ (Nat.mod_lt _ (by decide)))
    · exact xorFrom_lt hm (i + 1) l (fun z hz => h z (List.mem_cons_of_mem _ hz)) x hx
/-- The first i bytes are turned. -/
def half (m : Nat → Nat) (l : List Nat) (i : Nat) : List Nat := (xorN m l).take i ++ l.drop i
theorem half_length (m : Nat → Nat) (l : List Nat) (i : Nat) (hi : i ≤ l.length) : (half m l i).length = l.length := by
  unfold half
  rw [List.length_append, List.length_take, xorN_length, List.length_drop]; omega
theorem half_at {m : Nat → Nat} {l : List Nat} {i : Nat} (hi : i < l.length) : (half m l i)[i]? = some l[i] := by
  unfold half
  rw [List.getElem?_append_right (by rw [List.length_take]; omega), List.length_take, xorN_length, Nat.min_eq_left (by omega), Nat.sub_self, List.getElem?_drop, Nat.add_zero, List.getElem?_eq_getElem hi]
theorem half_next {m : Nat → Nat} {l : List Nat} {i : Nat} (hi : i < l.length) : half m l (i + 1) = (half m l i).set i (l[i] ^^^ m (i % 4)) := by
  have hx : i < (xorN m l).length := by rw [xorN_length]; exact hi
  have ha := xorFrom_at m 0 l i hi
  rw [Nat.zero_add] at ha
  have hv : (xorN m l)[i] = l[i] ^^^ m (i % 4) := by
    have h2 : (xorN m l)[i]? = some (l[i] ^^^ m (i % 4)) := ha
    rw [List.getElem?_eq_getElem hx] at h2
    exact Option.some.inj h2
  unfold half
  rw [List.take_succ_eq_append_getElem hx, hv, List.set_append_right _ _ (by rw [List.length_take]; omega), List.length_take, Nat.min_eq_left (by omega), Nat.sub_self, List.drop_eq_getElem_cons hi, List.set_cons_zero, List.append_assoc]
  rfl
theorem half_end (m : Nat → Nat) (l : List Nat) : half m l l.length = xorN m l := by
  unfold half
  rw [List.drop_length, List.append_nil, List.take_of_length_le (by rw [xorN_length]; exact Nat.le_refl _)]
set_option maxRecDepth 100000 in
set_option maxHeartbeats 1000000 in
theorem bclone_any (A : Option Addr) (n c : Nat) (l : List Nat) (hn : n = l.length) (hc : n ≤ c) (hz : n ≤ 1000000) (w : World) (hA : Seg w A (u8s l)) :
    Calls Tryd.prog 35 #[.slice A n c] w fun e w' => (∃ v, e = .returned v ∧ w'.ownsRow w.heap.size 5 1 v n (u8s l)) ∧ Below w.heap.size w w' := by
  obtain ⟨i0, hi0, hz0, hz1, hz2⟩ := info_parts info5
  have HA := Lib.hid hA
  cases A with
  | none =>
    have hl : l = [] := by
      rcases Nat.eq_zero_or_pos l.length with h | h
      · exact List.eq_nil_of_length_eq_zero h
      · obtain ⟨b, off, e, _⟩ := hA (by intro e; have := congrArg List.length e; rw [u8s_length] at this; simp only [List.length_nil] at this; omega)
        cases e
    subst hl
    obtain rfl : n = 0 := hn
    have qn : ∀ w' : World, (binOp .eql 25 (.slice none 0 c) (.slice none 0 0)).run Tryd.prog w' = .ok (.bool true) w' := fun w' => Lib.run_eql_slice_nil (P := Tryd.prog) w' 25 5 none 0 c 0 0 Tryd.underlying25
    clear hA hc hz HA hi0 hz0 hz1 hz2
    go_enter Tryd.func35, Tryd.ntmps35
    go_wp2_with fail
    go_ret
    exact ⟨⟨_, rfl, World.ownsRow_nil _ _ _ _⟩, Below.refl _ _⟩
  | some a =>
    have HN := Lib.hid hn
    clear hA hn
    have qn : ∀ w' : World, (binOp .eql 25 (.slice (some a) n c) (.slice none 0 0)).run Tryd.prog w' = .ok (.bool false) w' := fun w' => Lib.run_eql_slice_nil (P := Tryd.prog) w' 25 5 (some a) n c 0 0 Tryd.underlying25
    have al := (Below.refl w.heap.size w).alloc (Nat.le_refl _) (.cells #[] 5)
    have HO := Lib.hid (show (w.alloc (.cells #[] 5)).ownsRow w.heap.size 5 1 (.slice (some ⟨w.heap.size, 0, none⟩) 0 0) 0 [] from World.ownsRow_lit w #[] 0 (Nat.le_refl _) (by decide) rfl)
    have HS := Lib.hid (HA.out.bel al)
    have HB := Lib.hid al
    clear al
    go_enter Tryd.func35, Tryd.ntmps35
    go_wp2_with (at_builtin; refine wpList_append_seg _ rfl (.tmp 5) (.tmp 6) _ rfl w.heap.size 5 i0 _ 1 Tryd.underlying25 hi0 hz0 hz1 hz2 rfl (.slice (some ⟨w.heap.size, 0, none⟩) 0 0) 0 _ rfl HO.out (some a) n c (u8s l) rfl (by rw [u8s_length]; exact HN.out) HS.out (u8s_one l) (by simp only [maxLen]; omega) (by omega) HB.out.size ?_; intro v1 w1 o1 g1)
    rw [Nat.zero_add, List.nil_append] at o1
    have HO1 := Lib.hid o1
    have HB1 := Lib.hid (HB.out.trans g1)
    clear o1 g1
    go_ret
    exact ⟨⟨_, rfl, HO1.out⟩, HB1.out⟩
theorem own_baseU {w : World} {b0 b1 n size : Nat} {e : TypeId} {v : Value} {xs : List Value} (h : w.ownsRow b0 e size v n xs) (hb : b1 ≤ b0) : w.ownsRow b1 e size v n xs := by
  refine ⟨h.1, h.2.imp id ?_⟩
  rintro ⟨g, cap, cur, rfl, h1, r⟩
  exact ⟨g, cap, cur, rfl, Nat.le_trans hb h1, r⟩
theorem own_setU {w : World} {D g n c i : Nat} {l : List Nat} (h : w.ownsRow D 5 1 (.slice (some ⟨g, 0, none⟩) n c) n (u8s l)) (_hi : i < l.length) (x : Nat) :
    (w.setCell ⟨g, i, none⟩ (.int .u8 (x : Int))).ownsRow D 5 1 (.slice (some ⟨g, 0, none⟩) n c) n (u8s (l.set i x)) := by
  rcases h.2 with ⟨e, _⟩ | ⟨g', cap, cur, e, h1, h2, h3, h4, h5, h6⟩
  · cases e
  · injection e with e1 _ e3
    injection e1 with e1
    injection e1 with e1
    subst e1
    subst e3
    have hl := h.1
    refine ⟨by rw [u8s_length, List.length_set, ← u8s_length]; exact hl, Or.inr ⟨g, c, cur.setIfInBounds i (.int .u8 (x : Int)), rfl, h1, (show Bk w g 5 cur from h2).put i _, h3, h4, by simpa using h5, ?_⟩⟩
    rw [Array.toList_setIfInBounds, List.take_set, h6]
    unfold u8s
    rw [List.map_set]
set_option maxRecDepth 100000 in
set_option maxHeartbeats 2000000 in
theorem turned_any (A : Option Addr) (n c : Nat) (l : List Nat) (m : Nat → Nat) (hm : ∀ i, i < 4 → m i < 256) (hl : ∀ x ∈ l, x < 256) (hn : n = l.length) (hc : n ≤ c) (hz : n ≤ 1000000) (w : World) (hA : Seg w A (u8s l)) :
    Calls Tryd.prog 24 #[.slice A n c, .agg #[.int .u8 (m 0 : Nat), .int .u8 (m 1 : Nat), .int .u8 (m 2 : Nat), .int .u8 (m 3 : Nat)]] w fun e w' => (∃ v, e = .returned v ∧ w'.ownsRow w.heap.size 5 1 v n (u8s (xorN m l))) ∧ Below w.heap.size w w' := by
  obtain ⟨w0, hw0⟩ : ∃ x, x = w.alloc (.cells #[.int .u8 (m 0 : Nat), .int .u8 (m 1 : Nat), .int .u8 (m 2 : Nat), .int .u8 (m 3 : Nat)] 22) := ⟨_, rfl⟩
  have al : Below w.heap.size w w0 := by rw [hw0]; exact (Below.refl _ _).alloc (Nat.le_refl _) _
  have HBK := Lib.hid (show Bk w0 w.heap.size 22 #[.int .u8 (m 0 : Nat), .int .u8 (m 1 : Nat), .int .u8 (m 2 : Nat), .int .u8 (m 3 : Nat)] by rw [hw0]; exact Bk.new w _ _)
  have hs0 : w0.heap.size = w.heap.size + 1 := by rw [hw0]; simp
  have C := Lib.hid (bclone_any A n c l hn hc hz w0 (hA.bel al))
  have HAL := Lib.hid al
  have HW0 := Lib.hid hw0
  have HN := Lib.hid hn
  have HM := Lib.hid hm
  have HL := Lib.hid hl
  obtain ⟨gm, hgm⟩ : ∃ g, g = w.heap.size := ⟨_, rfl⟩
  have HG := Lib.hid (show gm < w0.heap.size by omega)
  have HGM := Lib.hid hgm
  rw [← hgm] at HBK
  clear hA hw0 al hs0 hn hm hl hgm
  go_enter Tryd.func24, Tryd.ntmps24
  go_upto_region 1 with fail
  rw [← HW0.out, ← HGM.out]
  go_wp2_with fail
  refine C.out.mono ?_
  rintro e w1 ⟨⟨v, rfl, ho⟩, b1⟩
  obtain ⟨A1, c1, rfl, hc1, _⟩ := own_shape ho
  have HB1 := Lib.hid b1
  have HO1 := Lib.hid ho
  have HBK1 := Lib.hid (HBK.out.bel b1)
  clear b1 ho C
  go_wp2_with fail
  go_loopw [11] (fun s wr => ∃ i : Nat, i ≤ n ∧ s = .int .i64 i ∧ Hid (wr.ownsRow w0.heap.size 5 1 (.slice A1 n c1) n (u8s (half m l i))) ∧ Hid (Below w0.heap.size w0 wr)) (fun s _ => n - (intOf s).toNat)
  case atStart => exact ⟨0, Nat.zero_le _, rfl, Lib.hid (by have h : half m l 0 = l := rfl; rw [h]; exact HO1.out), HB1⟩
  case round =>
    obtain ⟨i, hi, rfl, hO, hB⟩ := hrel
    by_cases hlt : i < n
    · have hil : i < l.length := by have := HN.out; omega
      obtain ⟨g, e1⟩ : ∃ g, A1 = some ⟨g, 0, none⟩ := by
        rcases hO.out.2 with ⟨e, e2⟩ | ⟨g, cap, cur, e, _⟩
        · exact absurd e2 (by omega)
        · injection e with e; exact ⟨g, e⟩
      subst e1
      have hgB : w0.heap.size ≤ g ∧ g < wr.heap.size := hO.out.lt g rfl
      obtain ⟨cur, hbk⟩ : ∃ cur, Bk wr g 5 cur := by
        rcases hO.out.2 with ⟨e, e2⟩ | ⟨g', cap, cur, e, _, h2, _⟩
        · exact absurd e2 (by omega)
        · injection e with e _ _; injection e with e; injection e with e; subst e; exact ⟨cur, h2⟩
      have f0 : wr.frozen? ⟨g, i, none⟩ = false := hbk.frozen _
      obtain ⟨x, hx⟩ : ∃ x, x = l[i] := ⟨_, rfl⟩
      have c0 : wr.cell? ⟨g, i, none⟩ = some (.int .u8 (x : Int)) := by
        have h := hO.out.cells (g := g) rfl i (.int .u8 (x : Int)) (by
          unfold u8s
          rw [List.getElem?_map, half_at hil, hx]; rfl)
        rw [addr_add] at h
        exact h
      have hx8 : x < 256 := by rw [hx]; exact HL.out _ (List.getElem_mem hil)
      obtain ⟨j, hj⟩ : ∃ j, j = i % 4 := ⟨_, rfl⟩
      have hj4 : j < 4 := by omega
      obtain ⟨y, hy⟩ : ∃ y, y = m j := ⟨_, rfl⟩
      have hy8 : y < 256 := by rw [hy]; exact HM.out j hj4
      have c1' : wr.cell? ⟨gm, j, none⟩ = some (.int .u8 (y : Int)) := by
        rw [(HBK.out.below hB.out HG.out).cell j, hy]
        have : j = 0 ∨ j = 1 ∨ j = 2 ∨ j = 3 := by omega
        rcases this with h | h | h | h <;> subst h <;> rfl
      have E1 := Lib.hid (show ((i : Int) + 1) = ((i + 1 : Nat) : Int) by omega)
      have MM := Lib.hid (show n - (intOf (.int .i64 ((i + 1 : Nat) : Int))).toNat < n - (intOf (.int .i64 (i : Int))).toNat by simp only [intOf]; omega)
      have i1 : (0 : Int) ≤ (i : Int) := by omega
      have i2 : (i : Int) < (n : Int) := by omega
      have i3 : (0 : Int) ≤ (j : Int) := by omega
      have i4 : (j : Int) < 4 := by omega
      have r1 : (i : Int) % 4 = (j : Int) := by omega
      have r2 : (i : Int).tmod 4 = (j : Int) := by rw [Int.tmod_eq_emod_of_nonneg (by omega)]; omega
      have r3 : wrap64 (j : Int) = (j : Int) := by rw [wrap64]; omega
      obtain ⟨z, hz9⟩ : ∃ z, z = x ^^^ y := ⟨_, rfl⟩
      have HNO := Lib.hid (show (wr.setCell ⟨g, i, none⟩ (.int .u8 (z : Int))).ownsRow w0.heap.size 5 1 (.slice (some ⟨g, 0, none⟩) n c1) n (u8s (half m l (i + 1))) by
        have hlen : i < (half m l i).length := by rw [half_length m l i (Nat.le_of_lt hil)]; exact hil
        have h9 := own_setU hO.out hlen z
        rw [half_next (m := m) hil, ← hx, ← hj, ← hy, ← hz9]
        exact h9)
      have HNB := Lib.hid (hB.out.setCell (p := ⟨g, i, none⟩) hgB.1 (.int .u8 (z : Int)))
      have xo : bits .xor .u8 (x : Int) (y : Int) = (z : Int) := by rw [hz9]; exact u8_xor_nat x y hx8 hy8
      have hz8 : z < 256 := by rw [hz9]; exact xor_lt hx8 hy8
      clear hO hB hbk hgB hx hy hj hil hz9
      go_wp2_with fail
      go_still_tail 10, (by kernel_rfl)
      change wpList _ _ _ _ _ wr.drew
      go_wp2_with fail
      rw [E1.out]
      exact ⟨⟨i + 1, hlt, rfl, Lib.hid (own_belS HNO.out ((Below.refl _ _).drew)), Lib.hid HNB.out.drew⟩, MM.out⟩
    · have hin : i = n := by omega
      have i0 : ¬ (i : Int) < (n : Int) := by omega
      have FIN := Lib.hid (show wr.ownsRow w.heap.size 5 1 (.slice A1 n c1) n (u8s (xorN m l)) by
        have h := hO.out
        rw [hin, HN.out, half_end, ← HN.out] at h
        exact own_baseU h HAL.out.size)
      have FB := Lib.hid (HAL.out.trans (hB.out.mono HAL.out.size))
      clear hO hB hin
      go_wp2_with fail
      go_ret
      exact ⟨⟨_, rfl, FIN.out⟩, FB.out⟩
end Go.Proofs.YtnbhgjionpidnaaDoor
