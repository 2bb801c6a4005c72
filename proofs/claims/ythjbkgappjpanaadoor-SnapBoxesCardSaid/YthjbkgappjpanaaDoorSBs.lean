/- A box that holds pieces of one text: taking more of them, and its text in the end. Condition: the box lies in memory. -/
import Derived.Test.YthjbkgappjpanaaDoorSText
import Derived.Test.YthjbkgappjpanaaDoorSSizes
namespace Go.Proofs.YthjbkgappjpanaaDoor
open Go.RowKit

def BsI (s : ByteArray) (z T T' sm : Nat) (th : Nat → Bool) (dt : Nat → ByteArray) : Prop :=
  ((T' = 0 ∧ ∀ i, th i = false) ∨ (T' = T ∧ sm = sumN s)) ∧ (∀ i, (dt i).size ≤ 4000) ∧ ∀ i, th i = true → dt i = cutS s z i
def Bs (w : World) (g : Nat) (s : ByteArray) (z T : Nat) (th : Nat → Bool) : Prop := ∃ T' sm dt, Bx w g (bxC T' sm th dt) ∧ BsI s z T T' sm th dt
theorem Bs.bel {w w' : World} {g : Nat} {s : ByteArray} {z T : Nat} {th : Nat → Bool} (h : Bs w g s z T th) (hb : Below w.heap.size w w') : Bs w' g s z T th := by
  obtain ⟨T', sm, dt, hx, hi⟩ := h
  exact ⟨T', sm, dt, hx.bel hb, hi⟩
theorem Bs.lt {w : World} {g : Nat} {s : ByteArray} {z T : Nat} {th : Nat → Bool} (h : Bs w g s z T th) : g < w.heap.size := by
  obtain ⟨T', sm, dt, hx, hi⟩ := h
  exact hx.lt
theorem cut_le (s : ByteArray) (z k : Nat) (h : s.size ≤ 4000) : (cutS s z k).size ≤ 4000 := by rw [cut_size]; omega
theorem bs_take (g : Nat) (s : ByteArray) (z T k : Nat) (th : Nat → Bool) (w : World) (hs : s.size ≤ 4000) (h : Bs w g s z T th) (hT : T ≤ 100) (hk : k < T) :
    Calls Tryd.prog 11 #[.pointer (some ⟨g, 0, none⟩), .agg #[.int .i64 (k : Int), .int .i64 (T : Int), .int .u32 ((sumN s : Nat) : Int), .string (cutS s z k)]] w fun e w' => (∃ b r, e = .returned (.tuple #[.bool b, .int .i64 r])) ∧ Bs w' g s z T (updT th k) ∧ Onl g w w' := by
  obtain ⟨T', sm, dt, hx, h1, h2, h3⟩ := h
  have hc1 : ¬ (0 < T' ∧ (T ≠ T' ∨ sumN s ≠ sm)) := by
    rcases h1 with ⟨h0, _⟩ | ⟨h0, h5⟩
    · omega
    · rintro ⟨_, h6 | h6⟩
      · exact h6 h0.symm
      · exact h6 h5.symm
  have hcl := cut_le s z k hs
  by_cases ht : th k = false
  · have hck : chkOk T' sm th dt k T (sumN s) (cutS s z k) = 0 := by unfold chkOk; rw [if_neg hc1, if_pos ht]
    refine (take_ok g T' sm th dt k T (sumN s) (cutS s z k) w hx (by omega) hT hk hcl hck).mono ?_
    rintro e w' ⟨rfl, hx', ho⟩
    refine ⟨⟨_, _, rfl⟩, ⟨T, sumN s, _, hx', .inr ⟨rfl, rfl⟩, fun i => ?_, fun i hi => ?_⟩, ho⟩
    · unfold updD; split
      · exact hcl
      · exact h2 i
    · unfold updD; unfold updT at hi
      by_cases e : i = k
      · subst e; rw [if_pos rfl]
      · rw [if_neg e] at hi ⊢; exact h3 i hi
  · have ht' : th k = true := by simpa using ht
    have hck : chkOk T' sm th dt k T (sumN s) (cutS s z k) = 7 := by unfold chkOk; rw [if_neg hc1, if_neg ht, if_pos (h3 k ht').symm]
    refine (take_no g (k : Int) (T : Int) (sumN s) (cutS s z k) w 7 (by decide) (fun w' hb => ?_)).mono ?_
    · have := check_good g T' sm th dt k T (sumN s) (cutS s z k) w' (hx.bel hb) (by omega) hT hk hcl
      rwa [hck] at this
    · rintro e w' ⟨rfl, hb⟩
      have hth : updT th k = th := by
        funext i
        unfold updT
        by_cases e : i = k
        · subst e; rw [if_pos rfl, ht']
        · rw [if_neg e]
      rw [hth]
      exact ⟨⟨_, _, rfl⟩, ⟨T', sm, dt, hx.bel hb, h1, h2, h3⟩, Onl.of_below hb⟩
theorem oct_append (a b : ByteArray) : octN (a ++ b) = octN a ++ octN b := by
  unfold octN
  rw [ByteArray.data_append, Array.toList_append, List.map_append]
theorem txt_oct (s : ByteArray) : txt (octN s) = s := by
  unfold txt octN
  rw [List.map_map]
  have : (UInt8.ofNat ∘ UInt8.toNat) = id := by funext x; simp
  rw [this, List.map_id]
theorem cat_acc (s : ByteArray) (z : Nat) (dt : Nat → ByteArray) (hz : 1 ≤ z) : ∀ k, k ≤ totalN s.size z → (∀ i, i < k → dt i = cutS s z i) → catN dt k = octN (accS s z k) := by
  intro k
  induction k with
  | zero => intro _ _; rw [acc_zero]; rfl
  | succ k ih =>
    intro hk hd
    have hle := total_le (n := s.size) (z := z) (i := k) hz (by omega)
    rw [catN_succ, ih (by omega) (fun i hi => hd i (by omega)), hd k (by omega), ← oct_append, acc_succ s z k (by omega)]
theorem miss_none (th : Nat → Bool) (T : Nat) (h : ∀ i, i < T → th i = true) : missN th T = [] := by
  unfold missN
  rw [List.filter_eq_nil_iff]
  intro i hi
  rw [h i (List.mem_range.1 hi)]
  simp
theorem sum_oct (s : ByteArray) : 4294967295 - crcGo (octN s) = sumN s := rfl
/-- The text of a box that holds all pieces. -/
theorem bs_text (g : Nat) (s : ByteArray) (z T : Nat) (th : Nat → Bool) (w : World) (hz : 1 ≤ z) (hs : s.size ≤ 4000) (h : Bs w g s z T th) (hT : T ≤ 100) (hTT : T = totalN s.size z) (hall : ∀ i, i < T → th i = true) (hTab : Tab w) :
    Calls Tryd.prog 13 #[.pointer (some ⟨g, 0, none⟩)] w fun e w' => e = .returned (.tuple #[.string s, .int .i64 0]) ∧ Below w.heap.size w w' := by
  obtain ⟨T', sm, dt, hx, h1, h2, h3⟩ := h
  have hT0 : 0 < T := by rw [hTT]; exact total_pos _ _
  obtain ⟨rfl, rfl⟩ : T' = T ∧ sm = sumN s := by
    rcases h1 with ⟨_, h0⟩ | h0
    · have := hall 0 hT0
      rw [h0 0] at this; cases this
    · exact h0
  have hm := miss_none th T' hall
  have hcat : catN dt T' = octN s := by rw [cat_acc s z dt hz T' (by omega) (fun i hi => h3 i (hall i hi)), acc_all s z T' (by rw [hTT]; exact total_gt hz)]
  have he : textE T' (sumN s) th dt = 0 := by
    unfold textE
    rw [hm, hcat, octN_length, sum_oct, if_neg (by simp; omega), if_neg (by omega), if_neg (by simp)]
  have ht : textS T' (sumN s) th dt = s := by unfold textS; rw [he, if_pos rfl, hcat, txt_oct]
  have := text_yes g T' (sumN s) th dt w hx hT (by omega) (by rw [hm]; rfl) h2 hTab
  rw [he, ht] at this
  exact this
theorem bs_miss (g : Nat) (s : ByteArray) (z T : Nat) (th : Nat → Bool) (w : World) (h : Bs w g s z T th) (hT : T ≤ 100) :
    Calls Tryd.prog 16 #[.pointer (some ⟨g, 0, none⟩)] w fun e w' => (∃ A n c, e = .returned (.slice A n c) ∧ n ≤ T ∧ ((∀ i, i < T → th i = true) → n = 0)) ∧ Below w.heap.size w w' := by
  obtain ⟨T', sm, dt, hx, h1, h2, h3⟩ := h
  have hle : T' ≤ T := by rcases h1 with ⟨h0, _⟩ | ⟨h0, _⟩ <;> omega
  refine (miss_any g T' sm th dt w hx (by omega)).mono ?_
  rintro e w' ⟨A, c, rfl, _, hb⟩
  refine ⟨⟨A, _, c, rfl, Nat.le_trans (missN_le th T') hle, fun hall => ?_⟩, hb⟩
  rw [miss_none th T' (fun i hi => hall i (by omega))]; rfl
/-- A box just made. -/
def zBx : Array Value := (Value.int .i64 0 :: Value.int .u32 0 :: (List.replicate 100 (Value.bool false) ++ List.replicate 100 (Value.string ⟨#[]⟩))).toArray
theorem info_box : (Tryd.prog.info? 38).map (fun i => (i.zero, i.size, i.bytes)) = some (some (.agg zBx), 202, 1712) := by kernel_rfl
theorem zero_box (w : World) : (zeroValue 38).run Tryd.prog w = .ok (.agg zBx) w := by
  obtain ⟨i0, hi0, hz0, _, _⟩ := info_parts info_box
  simp [zeroValue, typeInfo, hi0, hz0]
theorem bx_new (w : World) : Bx (w.alloc (.cells zBx 38)) w.heap.size (bxC 0 0 (fun _ => false) (fun _ => ⟨#[]⟩)) := by
  refine ⟨zBx, Bk.new w _ _, by rfl, fun i hi => ?_⟩
  unfold zBx bxC
  rw [List.getElem?_toArray]
  by_cases h0 : i = 0
  · subst h0; rfl
  by_cases h1 : i = 1
  · subst h1; rfl
  obtain ⟨k, rfl⟩ : ∃ k, i = k + 2 := ⟨i - 2, by omega⟩
  rw [if_neg h0, if_neg h1, List.getElem?_cons_succ, List.getElem?_cons_succ]
  by_cases h2 : k < 100
  · rw [if_pos (by omega), List.getElem?_append_left (by simpa using h2), List.getElem?_replicate, if_pos h2]
  · rw [if_neg (by omega), List.getElem?_append_right (by simp; omega), List.getElem?_replicate, if_pos (by simp; omega)]
theorem bs_new (w : World) (s : ByteArray) (z T : Nat) : Bs (w.alloc (.cells zBx 38)) w.heap.size s z T (fun _ => false) :=
  ⟨0, 0, _, bx_new w, .inl ⟨rfl, fun _ => rfl⟩, fun _ => Nat.zero_le _, fun _ h => by cases h⟩
end Go.Proofs.YthjbkgappjpanaaDoor
