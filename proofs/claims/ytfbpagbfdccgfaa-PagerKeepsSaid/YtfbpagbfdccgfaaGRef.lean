/- The reference's rows of slots; put and without. Condition: the rows lie in memory. -/
import Derived.Test.YtfbpagbfdccgfaaGAwake
import Derived.Test.YtfbpagbfdccgfaaStable
import Derived.Test.YtfbpagbfdccgfaaGTwo
import Derived.LoopTactic
import Derived.Lib.AppendZeros
namespace Go.Proofs.Ytfbpagbfdccgfaa
open Go.RowKit

theorem own_lenR {B n : Nat} {v : Value} {l : List HeldM} {w : World} (h : w.ownsRow B 41 3 v n (rowH l)) : n = l.length := by
  have := h.1
  rw [rowH_length] at this
  omega
theorem own_cellsR {B n : Nat} {g cap : Nat} {l : List HeldM} {w : World} (h : w.ownsRow B 41 3 (.slice (some ⟨g, 0, none⟩) n cap) n (rowH l)) : ∃ cur, Bk w g 41 cur ∧ n ≤ cap ∧ cap ≤ maxLen ∧ cur.size = cap * 3 ∧ cur.toList.take (n * 3) = rowH l ∧ B ≤ g := by
  rcases h.2 with ⟨h1, _⟩ | ⟨g', cap', cur, h1, hb, hc, hnc, hm, hs, ht⟩
  · cases h1
  · simp only [Value.slice.injEq, Option.some.injEq, Addr.mk.injEq, and_true, true_and] at h1
    obtain ⟨rfl, rfl⟩ := h1
    exact ⟨cur, hc, hnc, hm, hs, ht, hb⟩
theorem own_cellR {B n : Nat} {g cap i : Nat} {l : List HeldM} {w : World} (h : w.ownsRow B 41 3 (.slice (some ⟨g, 0, none⟩) n cap) n (rowH l)) (hi : i < l.length) (k : Nat) (hk : k < 3) : w.cell? ⟨g, i * 3 + k, none⟩ = (heldV l[i])[k]? := by
  obtain ⟨cur, hb, hn, _, hs, ht, _⟩ := own_cellsR h
  have hl := own_lenR h
  rw [hb.cell, ← rowH_at hi hk, ← ht, List.getElem?_take, if_pos (by omega), Array.getElem?_toList]
theorem own_shapeR {B n : Nat} {v : Value} {l : List HeldM} {w : World} (h : w.ownsRow B 41 3 v n (rowH l)) : (v = .slice none 0 0 ∧ l = []) ∨ ∃ g cap, v = .slice (some ⟨g, 0, none⟩) n cap ∧ B ≤ g ∧ g < w.heap.size ∧ n ≤ cap := by
  have hl := own_lenR h
  rcases h.2 with ⟨h1, h2⟩ | ⟨g', cap', cur, h1, hb, hc, hnc, hm, hs, ht⟩
  · exact Or.inl ⟨h1, List.eq_nil_of_length_eq_zero (by omega)⟩
  · refine Or.inr ⟨g', cap', h1, hb, ?_, hnc⟩
    rcases Nat.lt_or_ge g' w.heap.size with h | h
    · exact h
    · rw [Array.getElem?_eq_none h] at hc; cases hc
theorem own_setR {B n g cap i k : Nat} {l : List HeldM} {w : World} (h : w.ownsRow B 41 3 (.slice (some ⟨g, 0, none⟩) n cap) n (rowH l)) (hi : i < l.length) (hk : k < 3) (u : Value) (h2 : HeldM) (hu : (heldV l[i]).set k u = heldV h2) :
    (w.setCell ⟨g, i * 3 + k, none⟩ u).ownsRow B 41 3 (.slice (some ⟨g, 0, none⟩) n cap) n (rowH (l.set i h2)) := by
  obtain ⟨cur, hb, hn, hm, hs, ht, hB⟩ := own_cellsR h
  have hl := own_lenR h
  refine ⟨by rw [rowH_length, List.length_set, hl], Or.inr ⟨g, cap, cur.setIfInBounds (i * 3 + k) u, rfl, hB, hb.put (i * 3 + k) u, hn, hm, by simpa using hs, ?_⟩⟩
  rw [Array.toList_setIfInBounds, List.take_set, ht]
  have e : rowH l = rowH (l.take i) ++ heldV l[i] ++ rowH (l.drop (i + 1)) := by
    have := rowH_set hi l[i]
    rw [List.set_getElem_self] at this
    exact this
  have hlen : (rowH (l.take i)).length = i * 3 := by rw [rowH_length, List.length_take]; omega
  rw [rowH_set hi, e, List.append_assoc, List.set_append_right _ _ (by omega), hlen, List.set_append_left _ _ (by rw [heldV_length]; omega), show i * 3 + k - i * 3 = k by omega, hu, List.append_assoc]
theorem info_slot : (Try.prog.info? 41).map (fun i => (i.zero, i.size, i.bytes)) = some (some (.agg #[.int .i64 0, .int .i64 0, .bool false]), 3, 24) := by kernel_rfl
/-- An append behind a row of one's own: what it leaves. -/
theorem app_two (D g n cap : Nat) (xs : List HeldM) (w : World) (hown : w.ownsRow D 41 3 (.slice (some ⟨g, 0, none⟩) n cap) n (rowH xs)) (A : Option Addr) (m c : Nat) (l : List HeldM) (hm : m = l.length) (hA : ∀ ad, A = some ad → ∀ j u, (rowH l)[j]? = some u → w.cell? (ad.add j) = some u) (hz : n + m ≤ 2000000) (hn : A = none → m = 0) (hD : D ≤ w.heap.size) :
    ∃ v' w', (Builtin.append_ #[29, 29] 29 #[.slice (some ⟨g, 0, none⟩) n cap, .slice A m c]).run Try.prog w = .ok v' w' ∧ w'.ownsRow D 41 3 v' (n + m) (rowH (xs ++ l)) ∧ (∃ g' cap', v' = .slice (some ⟨g', 0, none⟩) (n + m) cap') ∧ w'.ownsRow D 41 3 (.slice (some ⟨g, 0, none⟩) n cap) n (rowH xs) ∧ (∀ v0, w.ownsRow D 41 3 v0 0 [] → w'.ownsRow D 41 3 v0 0 []) ∧ (∀ g' h, l = [h] → Bk w g' 41 (heldV h).toArray → Bk w' g' 41 (heldV h).toArray) ∧ Below D w w' ∧ (cap = 0 → Below w.heap.size w w') := by
  obtain ⟨i0, hi0, hz0, hz1, hz2⟩ := info_parts info_slot
  by_cases h0 : m = 0
  · subst h0
    have hl : l = [] := List.eq_nil_of_length_eq_zero hm.symm
    subst hl
    refine ⟨_, w, run_append_none w D _ _ _ i0 Try.underlying29 hi0 _ n 3 _ hown A c, by rw [List.append_nil]; exact hown, ⟨g, cap, rfl⟩, hown, fun _ h => h, (fun _ _ e => by cases e), Below.refl _ _, fun _ => Below.refl _ _⟩
  · obtain ⟨ad, rfl⟩ : ∃ ad, A = some ad := by
      cases A with
      | none => exact absurd (hn rfl) h0
      | some ad => exact ⟨ad, rfl⟩
    obtain ⟨v', w', h1, h2, h3, h4, h5, h6⟩ := run_append_two (P := Try.prog) w D 29 29 41 i0 _ 3 24 Try.underlying29 hi0 hz0 hz1 hz2 rfl g n cap (rowH xs) hown ad m c (rowH l) (by rw [rowH_length, hm]) (hA ad rfl) (rowH_one _) (by omega) (by simp only [maxLen]; omega) (by omega) hD
    refine ⟨v', w', h1, by rw [rowH_append]; exact h2, ?_, h3, ?_, ?_, h5, ?_⟩
    · rcases h2.2 with ⟨_, e⟩ | ⟨g', cap', cur, e, _⟩
      · omega
      · exact ⟨g', cap', e⟩
    · intro v0 k
      refine ⟨k.1, k.2.imp id ?_⟩
      rintro ⟨g0, c0, cur, rfl, k1, k2, k3, k4, k5, _⟩
      by_cases hg : g0 = g
      · subst hg
        rcases hown.2 with ⟨e, _⟩ | ⟨g1, c1, cur1, e, _, q2, _, _, q5, _⟩
        · cases e
        · simp only [Value.slice.injEq, Option.some.injEq, Addr.mk.injEq, and_true, true_and] at e
          obtain ⟨rfl, rfl⟩ := e
          rcases h3.2 with ⟨e, _⟩ | ⟨g1, c1, cur2, e, _, r2, _, _, r5, _⟩
          · cases e
          · simp only [Value.slice.injEq, Option.some.injEq, Addr.mk.injEq, and_true, true_and] at e
            obtain ⟨rfl, rfl⟩ := e
            rw [q2] at k2
            injection k2 with k2
            injection k2 with k2 _ _
            subst k2
            exact ⟨_, _, cur2, rfl, k1, r2, k3, k4, by rw [r5, ← q5, k5], by simp⟩
      · exact ⟨g0, c0, cur, rfl, k1, (h4.block g0 (Bk.lt (show Bk w g0 _ cur from k2)) hg).trans k2, k3, k4, k5, by simp⟩
    · intro g' h e k
      subst e
      by_cases hg : g' = g
      · subst hg
        rcases h6 with h6 | ⟨q1, cur, q2, q3, q4⟩
        · exact k.bel h6
        · have k2 : w.heap[g']? = some (.cells (heldV h).toArray 41 (0, 0)) := k
          rw [q2] at k2
          injection k2 with k2
          injection k2 with k2 _ _
          subst k2
          have e1 : cap = 1 := by have : (heldV h).toArray.size = 3 := rfl; omega
          have e2 : m = 1 := hm
          have e3 : n = 0 := by omega
          subst e3
          unfold Bk
          rw [q4]
          rfl
      · exact (h4.block g' k.lt hg).trans k
    · intro e
      subst e
      rcases h6 with h6 | ⟨q1, _⟩
      · exact h6
      · omega
/-- An append behind a row that is empty and has no room. -/
theorem app_lit (D g : Nat) (w : World) (hown : w.ownsRow D 41 3 (.slice (some ⟨g, 0, none⟩) 0 0) 0 []) (A : Option Addr) (m c : Nat) (l : List HeldM) (hm : m = l.length) (hA : ∀ ad, A = some ad → ∀ j u, (rowH l)[j]? = some u → w.cell? (ad.add j) = some u) (hz : m ≤ 2000000) (hn : A = none → m = 0) (hD : D ≤ w.heap.size) :
    ∃ v' w', (Builtin.append_ #[29, 29] 29 #[.slice (some ⟨g, 0, none⟩) 0 0, .slice A m c]).run Try.prog w = .ok v' w' ∧ w'.ownsRow D 41 3 v' m (rowH l) ∧ (∃ g' cap', v' = .slice (some ⟨g', 0, none⟩) m cap') ∧ Below w.heap.size w w' := by
  obtain ⟨v', w', h1, h2, h3, _, _, _, _, h8⟩ := app_two D g 0 0 [] w hown A m c l hm hA (by omega) hn hD
  rw [Nat.zero_add] at h2 h3
  exact ⟨v', w', h1, h2, h3, h8 rfl⟩
/-- A number put in its place. -/
def putI : List Int → Int → List Int
  | [], x => [x]
  | y :: r, x => if x < y then x :: y :: r else y :: putI r x
theorem putI_all {x : Int} : ∀ {l : List Int}, (∀ y ∈ l, ¬ x < y) → putI l x = l ++ [x]
  | [], _ => rfl
  | y :: r, h => by
    rw [putI, if_neg (h y (List.mem_cons_self ..)), putI_all (fun z hz => h z (List.mem_cons_of_mem _ hz))]
    rfl
theorem putI_no {x z : Int} (hz : x < z) : ∀ {l : List Int}, (∀ y ∈ l, ¬ x < y) → putI (l ++ [z]) x = l ++ [x, z]
  | [], _ => by show (if x < z then [x, z] else _) = _; rw [if_pos hz]; rfl
  | y :: r, h => by
    show (if x < y then _ else y :: putI (r ++ [z]) x) = _
    rw [if_neg (h y (List.mem_cons_self ..)), putI_no hz (fun z hz => h z (List.mem_cons_of_mem _ hz))]
    rfl
theorem putI_yes {x z : Int} : ∀ {l : List Int}, (∃ y ∈ l, x < y) → putI (l ++ [z]) x = putI l x ++ [z]
  | [], h => by obtain ⟨y, hy, _⟩ := h; cases hy
  | y :: r, h => by
    show (if x < y then x :: y :: (r ++ [z]) else y :: putI (r ++ [z]) x) = (if x < y then x :: y :: r else y :: putI r x) ++ [z]
    by_cases hy : x < y
    · rw [if_pos hy, if_pos hy]; rfl
    · rw [if_neg hy, if_neg hy, putI_yes (by
        obtain ⟨q, hq, hx⟩ := h
        rcases List.mem_cons.1 hq with rfl | hq
        · exact absurd hx hy
        · exact ⟨q, hq, hx⟩)]
      rfl
theorem putI_length (x : Int) : ∀ l : List Int, (putI l x).length = l.length + 1
  | [] => rfl
  | y :: r => by
    show (if x < y then x :: y :: r else y :: putI r x).length = _
    split
    · rfl
    · rw [List.length_cons, putI_length x r]; rfl
theorem putI_perm (x : Int) : ∀ l : List Int, (putI l x).Perm (x :: l)
  | [] => List.Perm.refl _
  | y :: r => by
    show (if x < y then x :: y :: r else y :: putI r x).Perm _
    split
    · exact List.Perm.refl _
    · exact ((putI_perm x r).cons y).trans (List.Perm.swap x y r)
theorem putI_sorted {x : Int} : ∀ {l : List Int}, l.Pairwise (· ≤ ·) → (putI l x).Pairwise (· ≤ ·)
  | [], _ => by simp [putI]
  | y :: r, h => by
    show (if x < y then x :: y :: r else y :: putI r x).Pairwise _
    rw [List.pairwise_cons] at h
    split
    · refine List.pairwise_cons.2 ⟨fun z hz => ?_, List.pairwise_cons.2 h⟩
      rcases List.mem_cons.1 hz with rfl | hz
      · omega
      · have := h.1 z hz; omega
    · refine List.pairwise_cons.2 ⟨fun z hz => ?_, putI_sorted h.2⟩
      rcases List.mem_cons.1 ((putI_perm x r).mem_iff.1 hz) with rfl | hz
      · omega
      · exact h.1 z hz
def foldP (l : List Int) : List Int := l.foldl putI []
theorem fold_snoc (l : List Int) (x : Int) : foldP (l ++ [x]) = putI (foldP l) x := by unfold foldP; rw [List.foldl_append]; rfl
theorem fold_gen : ∀ (l a : List Int), a.Pairwise (· ≤ ·) → (l.foldl putI a).Pairwise (· ≤ ·) ∧ (l.foldl putI a).Perm (l ++ a)
  | [], a, h => ⟨h, List.Perm.refl _⟩
  | x :: l, a, h => by
    obtain ⟨h1, h2⟩ := fold_gen l (putI a x) (putI_sorted h)
    exact ⟨h1, h2.trans (((putI_perm x a).append_left l).trans List.perm_middle)⟩
theorem fold_sort (l : List Int) : foldP l = sortI l := by
  obtain ⟨h1, h2⟩ := fold_gen l [] List.Pairwise.nil
  have h3 := List.pairwise_mergeSort (le := fun x y : Int => decide (x ≤ y)) (fun a b c h k => by simp at h k ⊢; omega) (fun a b => by simp; omega) l
  refine List.Perm.eq_of_pairwise (le := (· ≤ ·)) (fun a b _ _ h k => by omega) h1 (h3.imp (fun h => by simpa using h)) ?_
  rw [List.append_nil] at h2
  exact h2.trans (List.mergeSort_perm l _).symm
/-- Each operation's fact, in without. -/
def woF (B : Nat) (w0 : World) (l : List HeldM) (n c i b off : Nat) (j : Nat) (v u0 : Value) (w : World) : Prop := match j with
  | 0 => w.ownsRow B 41 3 v 0 [] ∧ ∃ g, v = .slice (some ⟨g, 0, none⟩) 0 0
  | 1 => v = .slice (some ⟨b, off, none⟩) n c
  | 2 => v = .int .i64 (i : Int)
  | 3 => v = .slice (some ⟨b, off, none⟩) i c
  | 4 => w.ownsRow B 41 3 v i (rowH (l.take i)) ∧ ∃ g cap, v = .slice (some ⟨g, 0, none⟩) i cap
  | 5 => v = .slice (some ⟨b, off, none⟩) n c
  | 6 => v = .int .i64 (i : Int)
  | 7 => v = .int .i64 ((i : Int) + 1)
  | 8 => ∃ A c', v = .slice (some A) (n - (i + 1)) c' ∧ ∀ j u, (rowH (l.drop (i + 1)))[j]? = some u → w0.cell? (A.add j) = some u
  | 9 => w.ownsRow B 41 3 v (n - 1) (rowH (l.take i ++ l.drop (i + 1))) ∧ ∃ g cap, v = .slice (some ⟨g, 0, none⟩) (n - 1) cap
  | 10 => v = u0
  | _ => True
theorem woF_bel {B : Nat} {w0 : World} {l : List HeldM} {n c i b off : Nat} {w w' : World} (hb : Below w.heap.size w w') : ∀ j u u', woF B w0 l n c i b off j u u' w → woF B w0 l n c i b off j u u' w' := by
  intro j u u' s
  unfold woF at *
  split at s <;> first | exact s | exact ⟨kept_bel s.1 hb, s.2⟩
theorem woF_any {B : Nat} {w0 : World} {l : List HeldM} {n c i b off : Nat} {w w' : World} {j : Nat} {u u' : Value} (h0 : j ≠ 0) (h4 : j ≠ 4) (h9 : j ≠ 9) (s : woF B w0 l n c i b off j u u' w) : woF B w0 l n c i b off j u u' w' := by
  unfold woF at *
  split at s <;> first | exact s | exact absurd rfl h0 | exact absurd rfl h4 | exact absurd rfl h9
theorem seg_dropR {w : World} {b off : Nat} {l : List HeldM} (h : Seg w (some ⟨b, off, none⟩) (rowH l)) (i : Nat) (hi : i ≤ l.length) : ∀ j u, (rowH (l.drop i))[j]? = some u → w.cell? ((⟨b, off + i * 3, none⟩ : Addr).add j) = some u := fun j u hu => by
  rw [← rowH_drop l i hi, List.getElem?_drop] at hu
  have := seg_cells h (i * 3 + j) u hu
  rw [show ((⟨b, off, none⟩ : Addr).add (i * 3 + j)) = ⟨b, off + (i * 3 + j), none⟩ by unfold Addr.add; split <;> simp_all] at this
  rw [show ((⟨b, off + i * 3, none⟩ : Addr).add j) = ⟨b, off + i * 3 + j, none⟩ by unfold Addr.add; split <;> simp_all, Nat.add_assoc]
  exact this
set_option maxRecDepth 100000 in
set_option maxHeartbeats 2000000 in
theorem without_any (l : List HeldM) (n c i b off : Nat) (hn : n = l.length) (hi : i < n) (hc : n ≤ c) (hz : n ≤ 1000000) (w : World) (hS : Seg w (some ⟨b, off, none⟩) (rowH l)) :
    Calls Try.prog 18 #[.slice (some ⟨b, off, none⟩) n c, .int .i64 (i : Nat)] w fun e w' => (∃ g cap, e = .returned (.slice (some ⟨g, 0, none⟩) (n - 1) cap) ∧ w'.ownsRow w.heap.size 41 3 (.slice (some ⟨g, 0, none⟩) (n - 1) cap) (n - 1) (rowH (l.eraseIdx i))) ∧ Below w.heap.size w w' := by
  obtain ⟨i0, hi0, hz0, hz1, hz2⟩ := info_parts info_slot
  have HE := Lib.hid (List.eraseIdx_eq_take_drop_succ l i)
  have HS1 := Lib.hid (show ∀ w1, Below w.heap.size w w1 → ∀ j u, (rowH (l.take i))[j]? = some u → w1.cell? ((⟨b, off, none⟩ : Addr).add j) = some u from fun w1 hb j u hu => by
    refine seg_cells (hS.bel hb) j u ?_
    have hj : j < (rowH (l.take i)).length := (List.getElem?_eq_some_iff.1 hu).1
    rw [rowH_length, List.length_take] at hj
    rw [← rowH_take l i (by omega), List.getElem?_take, if_pos (by omega)] at hu
    exact hu)
  have HS2 := Lib.hid (seg_dropR hS (i + 1) (by omega))
  have HS3 := Lib.hid (show ∀ w1, Below w.heap.size w w1 → ∀ A : Addr, (∀ j u, (rowH (l.drop (i + 1)))[j]? = some u → w.cell? (A.add j) = some u) → ∀ j u, (rowH (l.drop (i + 1)))[j]? = some u → w1.cell? (A.add j) = some u from fun w1 hb A h j u hu => by
    have h1 := h j u hu
    have hlt : (A.add j).block < w.heap.size := by
      rcases Nat.lt_or_ge (A.add j).block w.heap.size with h | h
      · exact h
      · rw [World.cell?, Array.getElem?_eq_none h] at h1; cases h1
    rw [World.cell?_of_block (w := w) (hb.block _ hlt)]
    exact h1)
  have HN := Lib.hid hn
  clear hS
  have i1 : (0 : Int) ≤ (i : Int) := by omega
  have i2 : (i : Int) ≤ (n : Int) := by omega
  have i3 : (i : Int) + 1 ≤ (n : Int) := by omega
  have i4 : (0 : Int) ≤ (i : Int) + 1 := by omega
  have i5 : i ≤ c := by omega
  have i6 : i + 1 ≤ c := by omega
  have i7 : i + 1 ≤ n := by omega
  have hln : l.length = n := hn.symm
  clear hn
  go_enter Try.func18, Try.ntmps18
  go_wp2_with fail
  refine wp_region_list [some 5, some 6, some 7, some 8, some 9, some 10, some 11, some 12, some 13, some 14, some 4] (fun j => bif j == 10 then 14 else 0) (woF w.heap.size w l n c i b off) (fun w1 => Below w.heap.size w w1) (by kernel_rfl) (Below.refl _ _).drew rfl (by kernel_rfl) (by kernel_rfl) (by kernel_rfl) (by kernel_rfl) (fun T hT => ?_)
  simp only [List.filterMap_cons, List.filterMap_nil, id, putsS, Act.put, List.setIfInBounds_toArray, List.set_cons_zero, List.set_cons_succ] at hT
  subst hT
  refine ⟨⟨?_, ?_, ?_, ?_, ?_, ?_, ?_, ?_, ?_, ?_, ?_, trivial⟩, ?_⟩
  · -- 0: Op.buildSlice 29 0 #[]
    refine StepL.act ?_
    intro f w1 hG hF K hK
    clear hF
    dsimp only at hK ⊢
    go_simp
    exact hK.out _ _ (hG.alloc hG.size _) ⟨World.ownsRow_lit w1 #[] 0 hG.size (by decide) rfl, _, rfl⟩ (fun j _ u u' h => woF_bel ((Below.refl _ _).alloc (Nat.le_refl _) _) j u u' h)
  · -- 1: Op.move t0
    refine StepL.act ?_
    intro f w1 hG hF K hK
    clear hF
    dsimp only at hK ⊢
    go_simp
    exact hK.out _ _ hG rfl (fun _ _ _ _ h => h)
  · -- 2: Op.move t1
    refine StepL.act ?_
    intro f w1 hG hF K hK
    clear hF
    dsimp only at hK ⊢
    go_simp
    exact hK.out _ _ hG rfl (fun _ _ _ _ h => h)
  · -- 3: Op.slice 29 t6 none (some t7) none
    refine StepL.act ?_
    intro f w1 hG hF K hK
    have d1 : (woF w.heap.size w l n c i b off) 1 (f 6) (f 0) w1 := hF 1 (by kernel_rfl)
    have d2 : (woF w.heap.size w l n c i b off) 2 (f 7) (f 0) w1 := hF 2 (by kernel_rfl)
    clear hF
    dsimp only at hK ⊢
    generalize f 6 = v6 at *
    generalize f 7 = v7 at *
    subst d1 d2
    go_simp
    exact hK.out _ _ hG rfl (fun _ _ _ _ h => h)
  · -- 4: Op.call ( builtin append, args := #[t5, t8], argTypes := #[29, 29] )
    intro f w1 hG hF K hK
    have d0 : (woF w.heap.size w l n c i b off) 0 (f 5) (f 0) w1 := hF 0 (by kernel_rfl)
    have d3 : (woF w.heap.size w l n c i b off) 3 (f 8) (f 0) w1 := hF 3 (by kernel_rfl)
    clear hF
    dsimp only at hK ⊢
    generalize hf5 : f 5 = v5 at *
    generalize hf8 : f 8 = v8 at *
    obtain ⟨d0, g0, rfl⟩ := d0
    have d3 : v8 = .slice (some ⟨b, off, none⟩) i c := d3
    subst d3
    obtain ⟨v', w2', hrun, hown, hsome, hb2⟩ := app_lit w.heap.size g0 w1 d0 (some ⟨b, off, none⟩) i c (l.take i) (by rw [List.length_take]; omega) (fun ad e j u hu => by cases e; exact HS1.out w1 hG j u hu) (by omega) (fun e => by cases e) hG.size
    refine Lib.wp_append_run w1 _ _ _ _ rfl _ _ rfl rfl _ w2' hrun (hK.out v' w2' (hG.trans (hb2.mono hG.size)) ⟨hown, hsome⟩ (fun j hj hdep h => woF_bel hb2 j _ _ h))
  · -- 5: Op.move t0
    refine StepL.act ?_
    intro f w1 hG hF K hK
    clear hF
    dsimp only at hK ⊢
    go_simp
    exact hK.out _ _ hG rfl (fun _ _ _ _ h => h)
  · -- 6: Op.move t1
    refine StepL.act ?_
    intro f w1 hG hF K hK
    clear hF
    dsimp only at hK ⊢
    go_simp
    exact hK.out _ _ hG rfl (fun _ _ _ _ h => h)
  · -- 7: Op.binOp BinOp.add 3 t11 (const (1:i64)) 3
    refine StepL.act ?_
    intro f w1 hG hF K hK
    have d6 : (woF w.heap.size w l n c i b off) 6 (f 11) (f 0) w1 := hF 6 (by kernel_rfl)
    clear hF
    dsimp only at hK ⊢
    generalize f 11 = v11 at *
    subst d6
    have e1 : IntKind.i64.wrap ((i : Int) + 1) = (i : Int) + 1 := by rw [IntKind.wrap_i64]; omega
    go_simp
    exact hK.out _ _ hG rfl (fun _ _ _ _ h => h)
  · -- 8: Op.slice 29 t10 (some t12) none none
    refine StepL.act ?_
    intro f w1 hG hF K hK
    have d5 : (woF w.heap.size w l n c i b off) 5 (f 10) (f 0) w1 := hF 5 (by kernel_rfl)
    have d7 : (woF w.heap.size w l n c i b off) 7 (f 12) (f 0) w1 := hF 7 (by kernel_rfl)
    clear hF
    dsimp only at hK ⊢
    generalize f 10 = v10 at *
    generalize f 12 = v12 at *
    subst d5
    subst d7
    by_cases hci : c = i + 1
    · subst hci
      go_simp
      exact hK.out _ _ hG ⟨⟨b, off, none⟩, 0, by show Value.slice _ 0 0 = _; rw [show n - (i + 1) = 0 by omega], fun j u hu => absurd (List.getElem?_eq_some_iff.1 hu).1 (by rw [rowH_length, List.length_drop]; omega)⟩ (fun _ _ _ _ h => h)
    · go_simp
      exact hK.out _ _ hG ⟨_, _, rfl, HS2.out⟩ (fun _ _ _ _ h => h)
  · -- 9: Op.call ( builtin append, args := #[t9, t13], argTypes := #[29, 29] )
    intro f w1 hG hF K hK
    have d4 : (woF w.heap.size w l n c i b off) 4 (f 9) (f 0) w1 := hF 4 (by kernel_rfl)
    have d8 : (woF w.heap.size w l n c i b off) 8 (f 13) (f 0) w1 := hF 8 (by kernel_rfl)
    clear hF
    dsimp only at hK ⊢
    generalize hf9 : f 9 = v9 at *
    generalize hf13 : f 13 = v13 at *
    obtain ⟨d4, g4, c4, rfl⟩ := d4
    obtain ⟨A8, c8, rfl, hA8⟩ := d8
    obtain ⟨v', w2', hrun, hown, hsome, hold, hzero, _, hb2, _⟩ := app_two w.heap.size g4 i c4 (l.take i) w1 d4 (some A8) (n - (i + 1)) c8 (l.drop (i + 1)) (by rw [List.length_drop]; omega) (fun ad e j u hu => by cases e; exact HS3.out w1 hG A8 hA8 j u hu) (by omega) (fun e => by cases e) hG.size
    refine Lib.wp_append_run w1 _ _ _ _ rfl _ _ rfl rfl _ w2' hrun (hK.out v' w2' (hG.trans hb2) (by rw [show i + (n - (i + 1)) = n - 1 by omega] at hown hsome; exact ⟨hown, hsome⟩) ?_)
    intro j hj hdep h
    by_cases h0 : j = 0
    · subst h0
      obtain ⟨k1, k2⟩ := h
      exact ⟨hzero _ k1, k2⟩
    · by_cases h4 : j = 4
      · subst h4
        have h : w1.ownsRow w.heap.size 41 3 (f 9) i (rowH (l.take i)) ∧ ∃ g cap, f 9 = .slice (some ⟨g, 0, none⟩) i cap := h
        have h2 : w2'.ownsRow w.heap.size 41 3 (f 9) i (rowH (l.take i)) ∧ ∃ g cap, f 9 = .slice (some ⟨g, 0, none⟩) i cap := ⟨by rw [hf9]; exact hold, h.2⟩
        exact h2
      · exact woF_any h0 h4 hj h
  · -- 10: Op.assign t14
    intro f w1 hG hF K hK
    have d9 : (woF w.heap.size w l n c i b off) 9 (f 14) (f 0) w1 := hF 9 (by kernel_rfl)
    clear hF
    dsimp only at hK ⊢
    generalize hf14 : f 14 = v14 at *
    obtain ⟨d9, g9, c9, rfl⟩ := d9
    go_simp
    exact hK.out _ _ hG hf14.symm (fun _ _ _ h => h)
  · intro f w6 hG hF
    have R : w6.ownsRow w.heap.size 41 3 (f 14) (n - 1) (rowH (l.take i ++ l.drop (i + 1))) ∧ ∃ g cap, f 14 = .slice (some ⟨g, 0, none⟩) (n - 1) cap := hF 9 (by decide)
    have R2 : f 4 = f 14 := hF 10 (by decide)
    rw [← R2] at R
    have HG := Lib.hid hG
    clear hF hG
    dsimp only
    clear R2
    generalize f 4 = v4 at *
    generalize f 5 = v5
    generalize f 6 = v6
    generalize f 7 = v7
    generalize f 8 = v8
    generalize f 9 = v9
    generalize f 10 = v10
    generalize f 11 = v11
    generalize f 12 = v12
    generalize f 13 = v13
    generalize f 14 = v14
    have HR := Lib.hid R.1
    obtain ⟨_, g9, c9, rfl⟩ := R
    go_wp2_with fail
    go_ret
    exact ⟨⟨_, _, rfl, by rw [HE.out]; exact HR.out⟩, HG.out⟩
set_option maxRecDepth 100000 in
set_option maxHeartbeats 1000000 in
theorem put_any (A : Option Addr) (n c : Nat) (l : List Int) (x : Int) (hn : n = l.length) (hz : n ≤ 1000000) (w : World) (hA : Seg w A (intV l)) :
    Calls Try.prog 17 #[.slice A n c, .int .i64 x] w fun e w' => (∃ B d, e = .returned (.slice B (n + 1) d) ∧ w'.ownsRow w.heap.size 3 1 (.slice B (n + 1) d) (n + 1) (intV (putI l x))) ∧ Below w.heap.size w w' := by
  obtain ⟨j0, hj0, hj1, hj2, hj3⟩ := info_parts info_int
  have HA := Lib.hid hA
  have HN := Lib.hid hn
  have AR : ∀ (w1 : World) (v : Value) (k : Nat) (xs : List Value) (y : Int), w1.ownsRow w.heap.size 3 1 v k xs → k ≤ 1000002 → Below w.heap.size w w1 → ∃ v' w', (Builtin.append_ #[24, 24] 24 #[v, .slice (some ⟨w1.heap.size, 0, none⟩) 1 1]).run Try.prog (w1.alloc (.cells #[.int .i64 y] 3)) = .ok v' w' ∧ w'.ownsRow w.heap.size 3 1 v' (k + 1) (xs ++ [.int .i64 y]) ∧ Below w.heap.size w w' := fun w1 v k xs y ho hk hb => by
    have al := (Below.refl w1.heap.size w1).alloc (Nat.le_refl _) (.cells #[.int .i64 y] 3)
    have hcell := (Bk.new w1 3 #[.int .i64 y])
    obtain ⟨v', w', hr, h2, h3, _, _⟩ := run_append_own_at (P := Try.prog) (w := w1.alloc (.cells #[.int .i64 y] 3)) w.heap.size 24 24 3 j0 _ 1 8 Try.underlying24 hj0 hj1 hj2 hj3 rfl (by decide) v k xs (kept_bel ho al) ⟨w1.heap.size, 0, none⟩ 1 1 [.int .i64 y] rfl (fun j u hu => by
      rw [show ((⟨w1.heap.size, 0, none⟩ : Addr).add j) = ⟨w1.heap.size, j, none⟩ by unfold Addr.add; split <;> simp_all, hcell.cell j]; simpa using hu) (by intro u hu; simp only [List.mem_singleton] at hu; subst hu; rfl) (by simp only [maxLen]; omega) (by omega) (Nat.le_trans hb.size al.size)
    exact ⟨v', w', hr, h2, (hb.trans (al.mono hb.size)).grown h3 (Nat.le_trans hb.size al.size) (fun j e => ((kept_bel ho al).lt j e).1)⟩
  have HAR := Lib.hid AR
  clear hA hn AR
  go_enter Try.func17, Try.ntmps17
  go_wp2_with fail
  go_loopw [5, 6, 12] (fun s5 s6 s wr => ∃ (i : Nat) (d : Bool), i ≤ n ∧ s = .int .i64 i ∧ s6 = .bool d ∧ Hid (Below w.heap.size w wr) ∧ Hid (wr.ownsRow w.heap.size 3 1 s5 (i + d.toNat) (intV (if d = true then putI (l.take i) x else l.take i))) ∧ Hid (if d = true then (∃ y ∈ l.take i, x < y) else (∀ y ∈ l.take i, ¬ x < y))) (fun _ _ s _ => n - (intOf s).toNat)
  case atStart => exact ⟨0, false, Nat.zero_le _, rfl, rfl, Lib.hid ((Below.refl _ _).alloc (Nat.le_refl _) _), Lib.hid (World.ownsRow_lit w #[] 0 (Nat.le_refl _) (by decide) rfl), Lib.hid (fun y hy => by simp at hy)⟩
  case round =>
    obtain ⟨i, d, hin, rfl, rfl, hB, hO, hD⟩ := hrel
    obtain ⟨AW, cW, hv, _⟩ := own_shapeS hO.out
    subst hv
    by_cases hlt : i < n
    · have hil : i < l.length := by have := HN.out; omega
      obtain ⟨b, off, rfl, hbl, hcell⟩ := HA.out (by intro e; have := congrArg List.length e; rw [intV_length] at this; simp only [List.length_nil] at this; omega)
      obtain ⟨y, hy⟩ : ∃ y, y = l[i] := ⟨_, rfl⟩
      have c0 : wr.cell? ⟨b, off + i, none⟩ = some (.int .i64 y) := by
        rw [World.cell?_of_block (hB.out.block b hbl), hcell i (by rw [intV_length]; exact hil), hy]
        simp [intV, hil]
      have HT := Lib.hid (show l.take (i + 1) = l.take i ++ [y] by rw [List.take_succ_eq_append_getElem hil, hy])
      have E1 := Lib.hid (show ((i : Int) + 1) = ((i + 1 : Nat) : Int) by omega)
      have MM := Lib.hid (show n - (intOf (.int .i64 ((i + 1 : Nat) : Int))).toNat < n - (intOf (.int .i64 (i : Int))).toNat by simp only [intOf]; omega)
      have i1 : (0 : Int) ≤ (i : Int) := by omega
      have i2 : (i : Int) < (n : Int) := by omega
      clear hcell hy
      cases d
      · have hD2 : ∀ y ∈ l.take i, ¬ x < y := by have := hD.out; simpa using this
        have hO2 : wr.ownsRow w.heap.size 3 1 (.slice AW i cW) i (intV (l.take i)) := hO.out
        by_cases hxy : x < y
        · have g1 : decide (x < y) = true := decide_eq_true hxy
          obtain ⟨v1, wA, r1, o1, b1⟩ := HAR.out wr _ i _ x hO2 (by omega) hB.out
          obtain ⟨A1, k1, rfl, _⟩ := own_shapeS o1
          obtain ⟨v2, wB, r2, o2, b2⟩ := HAR.out wA _ (i + 1) _ y o1 (by omega) b1
          obtain ⟨A2, k2, rfl, _⟩ := own_shapeS o2
          have R1 := Lib.hid r1
          have R2 := Lib.hid r2
          have NO := Lib.hid (show wB.ownsRow w.heap.size 3 1 (.slice A2 (i + 1 + 1) k2) (i + 1 + true.toNat) (intV (if true = true then putI (l.take (i + 1)) x else l.take (i + 1))) by
            rw [if_pos rfl, HT.out, putI_no hxy hD2]
            have e : intV (l.take i ++ [x, y]) = intV (l.take i) ++ [.int .i64 x] ++ [.int .i64 y] := by simp [intV]
            rw [e]; exact o2)
          have NB := Lib.hid b2
          have ND := Lib.hid (show (if true = true then (∃ y ∈ l.take (i + 1), x < y) else (∀ y ∈ l.take (i + 1), ¬ x < y)) by
            rw [if_pos rfl, HT.out]; exact ⟨y, by simp, hxy⟩)
          clear r1 o1 b1 r2 o2 b2 hO hO2 hD hD2 hB
          go_upto_region 9 with (at_builtin; refine Lib.wpList_append_run _ rfl _ _ _ _ rfl _ _ rfl rfl _ _ R1.out ?_)
          go_wp2_with (at_builtin; refine Lib.wpList_append_run _ rfl _ _ _ _ rfl _ _ rfl rfl _ _ R2.out ?_)
          rw [E1.out]
          exact ⟨⟨i + 1, true, by omega, rfl, rfl, NB, NO, ND⟩, MM.out⟩
        · have g1 : decide (x < y) = false := decide_eq_false hxy
          have g2 : ¬ x < y := hxy
          obtain ⟨v1, wA, r1, o1, b1⟩ := HAR.out wr _ i _ y hO2 (by omega) hB.out
          obtain ⟨A1, k1, rfl, _⟩ := own_shapeS o1
          have R1 := Lib.hid r1
          have NO := Lib.hid (show wA.ownsRow w.heap.size 3 1 (.slice A1 (i + 1) k1) (i + 1 + false.toNat) (intV (if false = true then putI (l.take (i + 1)) x else l.take (i + 1))) by
            rw [if_neg (by decide), HT.out, intV_snoc]; exact o1)
          have NB := Lib.hid b1
          have ND := Lib.hid (show (if false = true then (∃ y ∈ l.take (i + 1), x < y) else (∀ y ∈ l.take (i + 1), ¬ x < y)) by
            rw [if_neg (by decide), HT.out]
            intro z hz
            rcases List.mem_append.1 hz with hz | hz
            · exact hD2 z hz
            · simp only [List.mem_singleton] at hz; subst hz; exact hxy)
          clear r1 o1 b1 hO hO2 hD hD2 hB hxy
          go_wp2_with (at_builtin; refine Lib.wpList_append_run _ rfl _ _ _ _ rfl _ _ rfl rfl _ _ R1.out ?_)
          rw [E1.out]
          exact ⟨⟨i + 1, false, by omega, rfl, rfl, NB, NO, ND⟩, MM.out⟩
      · have hD2 : ∃ y ∈ l.take i, x < y := by have := hD.out; simpa using this
        have hO2 : wr.ownsRow w.heap.size 3 1 (.slice AW (i + 1) cW) (i + 1) (intV (putI (l.take i) x)) := hO.out
        obtain ⟨v1, wA, r1, o1, b1⟩ := HAR.out wr _ (i + 1) _ y hO2 (by omega) hB.out
        obtain ⟨A1, k1, rfl, _⟩ := own_shapeS o1
        have R1 := Lib.hid r1
        have NO := Lib.hid (show wA.ownsRow w.heap.size 3 1 (.slice A1 (i + 1 + 1) k1) (i + 1 + true.toNat) (intV (if true = true then putI (l.take (i + 1)) x else l.take (i + 1))) by
          rw [if_pos rfl, HT.out, putI_yes hD2, intV_snoc]; exact o1)
        have NB := Lib.hid b1
        have ND := Lib.hid (show (if true = true then (∃ y ∈ l.take (i + 1), x < y) else (∀ y ∈ l.take (i + 1), ¬ x < y)) by
          rw [if_pos rfl, HT.out]
          obtain ⟨z, hz, hx⟩ := hD2
          exact ⟨z, by simp [hz], hx⟩)
        clear r1 o1 b1 hO hO2 hD hD2 hB
        go_wp2_with (at_builtin; refine Lib.wpList_append_run _ rfl _ _ _ _ rfl _ _ rfl rfl _ _ R1.out ?_)
        rw [E1.out]
        exact ⟨⟨i + 1, true, by omega, rfl, rfl, NB, NO, ND⟩, MM.out⟩
    · obtain rfl : i = n := by omega
      have htk : l.take i = l := by rw [HN.out]; exact List.take_length
      have HTK := Lib.hid htk
      clear htk
      cases d
      · have hD2 : ∀ y ∈ l, ¬ x < y := by have := hD.out; rw [HTK.out] at this; simpa using this
        have hO2 : wr.ownsRow w.heap.size 3 1 (.slice AW i cW) i (intV l) := by have := hO.out; rw [HTK.out] at this; exact this
        obtain ⟨v1, wA, r1, o1, b1⟩ := HAR.out wr _ i _ x hO2 (by omega) hB.out
        obtain ⟨A1, k1, rfl, _⟩ := own_shapeS o1
        have R1 := Lib.hid r1
        have FIN := Lib.hid (show wA.ownsRow w.heap.size 3 1 (.slice A1 (i + 1) k1) (i + 1) (intV (putI l x)) ∧ Below w.heap.size w wA from ⟨by rw [putI_all hD2, intV_snoc]; exact o1, b1⟩)
        clear r1 o1 b1 hO hO2 hD hD2 hB
        go_wp2_with (at_builtin; refine Lib.wpList_append_run _ rfl _ _ _ _ rfl _ _ rfl rfl _ _ R1.out ?_)
        go_ret
        exact ⟨⟨_, _, rfl, FIN.out.1⟩, FIN.out.2⟩
      · have FIN := Lib.hid (show wr.ownsRow w.heap.size 3 1 (.slice AW (i + 1) cW) (i + 1) (intV (putI l x)) ∧ Below w.heap.size w wr from ⟨by have := hO.out; rw [if_pos rfl, HTK.out] at this; exact this, hB.out⟩)
        clear hO hD hB
        go_wp2_with fail
        go_ret
        exact ⟨⟨_, _, rfl, FIN.out.1⟩, FIN.out.2⟩
end Go.Proofs.Ytfbpagbfdccgfaa
