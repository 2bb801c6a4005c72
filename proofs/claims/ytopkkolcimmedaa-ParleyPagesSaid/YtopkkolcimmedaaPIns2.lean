/- slices.Insert at []string of one text into a row of one's own. Condition: the place lies in the row or at its end. -/
import Derived.Test.YtopkkolcimmedaaPIns
namespace Go.Proofs.Ytopkkolcimmedaa
open Go.RowKit

/-- A new row: what was in front, x, what was behind, room. -/
theorem ins_new {B gc i : Nat} {w : World} (ks : List ByteArray) (x : ByteArray) (hB : B ≤ w.heap.size) (l : List Value) (hl : l = strV (ks.take i ++ x :: ks.drop i)) (hi : i ≤ ks.length) (hg : ks.length + 1 ≤ gc) (hm : gc ≤ maxLen) (n : Nat) (hn : n = gc - (ks.length + 1)) :
    (w.drew.alloc (.cells (l.toArray ++ Builtin.zeroCells (Value.string ⟨#[]⟩).cells n) 9)).ownsRow B 9 1 (.slice (some ⟨w.heap.size, 0, none⟩) (ks.length + 1) gc) (ks.length + 1) (strV (ks.take i ++ x :: ks.drop i)) := by
  have hlen : l.length = ks.length + 1 := by rw [hl]; simp [strV]; omega
  refine ⟨by rw [← hl, hlen]; omega, Or.inr ⟨w.heap.size, gc, _, rfl, hB, heap_alloc_new w.drew _, hg, hm, ?_, ?_⟩⟩
  · rw [Array.size_append, size_zeroCells]
    have : (Value.string ⟨#[]⟩).cells.size = 1 := rfl
    simp [hlen, this]; omega
  · rw [Array.toList_append, show (ks.length + 1) * 1 = l.toArray.toList.length by simp [hlen], List.take_left, ← hl]

theorem keptDA (v : Value) (w : World) (o : Obj) : KeptO v w (w.drew.alloc o) := ⟨by simp, fun b hb _ => Below.heap_alloc w.drew o b hb⟩
theorem belD (B : Nat) (w : World) : Below B w w.drew := ⟨rfl, rfl, rfl, Nat.le_refl _, fun _ _ => rfl⟩
theorem belDA {B : Nat} {w : World} (hB : B ≤ w.heap.size) (o : Obj) : Below B w (w.drew.alloc o) := (belD B w).alloc hB o
/-- A new row, x in its midst. -/
theorem ins_mid {B gc i : Nat} {w : World} (ks : List ByteArray) (x : ByteArray) (hB : B ≤ w.heap.size) (hi : i < ks.length) (hg : ks.length + 1 ≤ gc) (hm : gc ≤ maxLen) (C : Array Value) (hC : C.size = gc) (hc : C.toList.take i = (strV ks).take i) (W : World) (hW : Bk W w.heap.size 9 C) :
    (((W.drew.setCells w.heap.size i [.string x]).drew).setCells w.heap.size (i + 1) ((strV ks).drop i)).ownsRow B 9 1 (.slice (some ⟨w.heap.size, 0, none⟩) (ks.length + 1) gc) (ks.length + 1) (strV (ks.take i ++ x :: ks.drop i)) := by
  refine ⟨?_, Or.inr ⟨w.heap.size, gc, laid (laid C i [.string x]) (i + 1) ((strV ks).drop i), rfl, hB, ?_, hg, hm, ?_, ?_⟩⟩
  · simp [strV]; omega
  · exact Bk.puts _ (i + 1) (Bk.puts [.string x] i hW)
  · rw [laid_size, laid_size]; omega
  · have hl : ((strV ks).drop i).length = ks.length - i := by rw [List.length_drop, strV_length]
    have hcl : C.toList.length = gc := by rw [Array.length_toList, hC]
    have lt : (C.toList.take i).length = i := by rw [List.length_take]; omega
    rw [laid_list _ _ _ (by rw [laid_size, hl]; omega), laid_list _ _ _ (by simp; omega), strV_mid, ← hc]
    rw [show (C.toList.take i ++ [Value.string x] ++ C.toList.drop (i + [Value.string x].length)).take (i + 1) = C.toList.take i ++ [Value.string x] by
      rw [List.take_append_of_le_length (by simp; omega), List.take_of_length_le (by simp; omega)]]
    rw [show (ks.length + 1) * 1 = (C.toList.take i ++ [Value.string x] ++ (strV ks).drop i).length by simp [strV]; omega]
    rw [List.take_left]
    simp

set_option maxRecDepth 100000 in
theorem insert_any (B vb : Nat) (v : Value) (ks : List ByteArray) (i : Nat) (x : ByteArray) (w : World) (hown : w.ownsRow B 9 1 v ks.length (strV ks)) (hi : i ≤ ks.length) (hvb : Bk w vb 9 #[.string x]) (hne : v.ownBlock ≠ some vb) (hB : B ≤ w.heap.size) (hn : ks.length ≤ 8796093021952) :
    Calls Try.prog 18 #[v, .int .i64 (i : Nat), .slice (some ⟨vb, 0, none⟩) 1 1] w fun e w' => ∃ v', e = .returned v' ∧ InsP B v ks i x w v' w' := by
  have hvs : ∀ (j : Nat) (u : Value), [Value.string x][j]? = some u → w.cell? ⟨vb, 0 + j, none⟩ = some u := fun j u hj => by
    rw [Nat.zero_add, hvb.cell j]; simpa using hj
  have h1v : ∀ u ∈ [Value.string x], u.oneCell' = true := by intro u hu; simp at hu; subst hu; rfl
  have hM : ∀ n, n ≤ 8796093021953 → n ≤ maxLen := fun n h => by unfold maxLen; omega
  rcases hown.2 with ⟨rfl, h0⟩ | ⟨g, c, cur, rfl, hBg, hb, hc, hcm, hcs, htk⟩
  · have hks : ks = [] := List.eq_nil_of_length_eq_zero h0
    subst hks
    have hi0 : i = 0 := by simpa using hi
    subst hi0
    refine (Any2.slices_Insert_string_end_grow lays22 none 0 0 vb 0 1 1 [] [.string x] w (by omega) (by omega) (by omega) (by omega) rfl rfl (fun _ => rfl) (by intro a ha; cases ha) hvs h1v).mono ?_
    rintro e w' ⟨rfl, rfl⟩
    refine ⟨_, rfl, ins_new [] x hB _ (by simp [strV]) (by simp) (grownCap_ge _ _ _ _) (grownCap_le_maxLen _ _ _ _ (hM _ (by omega))) _ rfl, keptDA _ w _, belDA hB _, Or.inr rfl⟩
  · have hbk : Bk w g 9 cur := hb
    have hgl := hbk.lt
    have hcur : cur.size = c := by omega
    have htk' : cur.toList.take ks.length = strV ks := by rw [← htk]; congr 1; omega
    have hcell : ∀ (j : Nat) (u : Value), (strV ks)[j]? = some u → w.cell? ⟨g, 0 + j, none⟩ = some u := fun j u hj => by
      rw [Nat.zero_add, hbk.cell j, ← hj, ← htk']
      have hjl : j < ks.length := by
        rcases Nat.lt_or_ge j ks.length with h | h
        · exact h
        · rw [List.getElem?_eq_none (by rw [strV_length]; exact h)] at hj; cases hj
      rw [List.getElem?_take, if_pos hjl, Array.getElem?_toList]
    have hsome : ∀ j, j < c → (w.cell? ⟨g, 0 + j, none⟩).isSome = true := fun j hj => by
      rw [Nat.zero_add, hbk.cell j]; simp [hcur, hj]
    have hne2 : vb ≠ g := fun h => hne (by rw [h]; rfl)
    have keptP : ∀ (w1 : World) (o : Nat) (vs : List Value), KeptO (.slice (some ⟨g, 0, none⟩) ks.length c) w w1 → KeptO (.slice (some ⟨g, 0, none⟩) ks.length c) w (w1.setCells g o vs) := fun w1 o vs h =>
      ⟨Nat.le_trans h.size ((below_puts (Nat.zero_le g) vs o w1).size), fun b hb1 hb2 => (keep_puts vs o w1 b (fun he => hb2 (by rw [he]; rfl))).trans (h.block b hb1 hb2)⟩
    have kept0 : KeptO (.slice (some ⟨g, 0, none⟩) ks.length c) w w := ⟨Nat.le_refl _, fun _ _ _ => rfl⟩
    by_cases hroom : ks.length + 1 ≤ c
    · by_cases hin : i < ks.length
      · refine (Any2.slices_Insert_string_shift lays22 g 0 ks.length c i vb 0 1 1 (strV ks) [.string x] w hin (by omega) hroom (by unfold maxLen at hcm; omega) hne2 (strV_length ks) rfl hcell (fun j hj => hsome j (by omega)) (fun j _ => hbk.frozen _) hvs (strV_one ks) h1v 9 9 1 c ?_ ?_ (by omega) (hvb.frozen _) (hvb.frozen _)).mono ?_
        · unfold Bk at hvb; simp [World.shape?, hvb]
        · simp [World.shape?, hb, hcur]
        · rintro e w' ⟨rfl, rfl⟩
          refine ⟨_, rfl, ?_, ?_, ?_, Or.inl rfl⟩
          · have := ins_room (i := i) ks x hBg hbk hroom hcm hcur htk' hi
            simpa using this
          · exact keptP _ _ _ (keptP _ _ _ ⟨Nat.le_refl _, fun _ _ _ => rfl⟩)
          · exact (belD B w).trans ((below_puts hBg _ _ w.drew).trans (below_puts hBg _ _ _))
      · have hie : i = ks.length := by omega
        subst hie
        refine (Any2.slices_Insert_string_end_room lays22 g 0 ks.length c vb 0 1 1 [.string x] w (by omega) hroom (by unfold maxLen at hcm; omega) rfl (fun j hj => by rw [show 0 + ks.length + j = 0 + (ks.length + j) by omega]; exact hsome _ (by omega)) (fun j _ => hbk.frozen _) hvs h1v).mono ?_
        rintro e w' ⟨rfl, rfl⟩
        refine ⟨_, rfl, ?_, keptP _ _ _ kept0, below_puts hBg _ _ w, Or.inl rfl⟩
        have := ins_room (i := ks.length) (w := w) ks x hBg hbk hroom hcm hcur htk' hi
        rw [List.drop_of_length_le (l := strV ks) (by rw [strV_length]; omega)] at this
        rw [Nat.zero_add]
        exact this
    · by_cases hin : i < ks.length
      · refine (Any2.slices_Insert_string_grow lays22 g 0 ks.length c i vb 0 1 1 (strV ks) [.string x] w hin (by omega) hc (by omega) (by omega) (strV_length ks) rfl hcell hvs (strV_one ks) h1v).mono ?_
        rintro e w' ⟨rfl, rfl⟩
        have hz : (Value.string ⟨#[]⟩).cells.size = 1 := rfl
        have hge := grownCap_ge w (ks.length + 1) c (pRen.t 9)
        refine ⟨_, rfl, ins_mid ks x hB hin hge (grownCap_le_maxLen _ _ _ _ (hM _ (by omega))) _ ?_ ?_ _ (Bk.new w _ _), ?_, ?_, Or.inr rfl⟩
        · rw [Array.size_append, Array.size_append, size_zeroCells, size_zeroCells]
          simp [hz, strV_length]; omega
        · rw [Array.toList_append, Array.toList_append, List.append_assoc]
          have : ((strV ks).take i).toArray.toList.length = i := by simp [strV_length]; omega
          rw [List.take_append_of_le_length (by omega), List.take_of_length_le (by omega)]
        · refine ⟨(((Below.refl 0 w).alloc (Nat.zero_le _) _).trans ((belD 0 _).trans ((below_puts (Nat.zero_le _) _ _ _).trans ((belD 0 _).trans (below_puts (Nat.zero_le _) _ _ _))))).size, fun b hb1 hb2 => ?_⟩
          rw [keep_puts _ _ _ _ (by omega)]
          show (World.setCells _ _ _ _).heap[b]? = _
          rw [keep_puts _ _ _ _ (by omega)]
          exact Below.heap_alloc w _ b hb1
        · exact ((Below.refl B w).alloc hB _).trans ((belD B _).trans ((below_puts hB _ _ _).trans ((belD B _).trans (below_puts hB _ _ _))))
      · have hie : i = ks.length := by omega
        subst hie
        refine (Any2.slices_Insert_string_end_grow lays22 (some ⟨g, 0, none⟩) ks.length c vb 0 1 1 (strV ks) [.string x] w (by omega) hc (by omega) (by omega) (strV_length ks) rfl (by intro h; cases h) (by intro a ha j u hj; cases ha; rw [show ((⟨g, 0, none⟩ : Addr).add j) = ⟨g, 0 + j, none⟩ by unfold Addr.add; split <;> simp_all]; exact hcell j u hj) hvs h1v).mono ?_
        rintro e w' ⟨rfl, rfl⟩
        refine ⟨_, rfl, ins_new ks x hB _ (by simp [strV]) hi (grownCap_ge _ _ _ _) (grownCap_le_maxLen _ _ _ _ (hM _ (by omega))) _ rfl, keptDA _ w _, belDA hB _, Or.inr rfl⟩
end Go.Proofs.Ytopkkolcimmedaa
