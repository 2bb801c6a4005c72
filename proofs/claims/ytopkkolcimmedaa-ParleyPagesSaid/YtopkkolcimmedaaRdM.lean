/- What a reader of a node's block comes to, xs plain data, and that it is the turn of writing one. No condition. -/
import Derived.Test.YtopkkolcimmedaaNEncode
import Derived.Test.YtopkkolcimmedaaTxtP
namespace Go.Proofs.Ytopkkolcimmedaa
open Go.RowKit

def txtP : List Nat → Option (ByteArray × List Nat)
  | [] => none
  | x :: l => if x ≤ l.length then some (txt (l.take x), l.drop x) else none
def kidP : List Nat → Option (Int × List Nat)
  | x :: y :: l => some (((x + 256 * y : Nat) : Int), l)
  | _ => none
def leafP : Nat → List Nat → Option (List ByteArray × List ByteArray × List Nat)
  | 0, l => some ([], [], l)
  | k + 1, l => (txtP l).bind fun a => (txtP a.2).bind fun b => (leafP k b.2).map fun r => (a.1 :: r.1, b.1 :: r.2.1, r.2.2)
def branchP : Nat → List Nat → Option (List ByteArray × List Int × List Nat)
  | 0, l => some ([], [], l)
  | k + 1, l => (txtP l).bind fun a => (kidP a.2).bind fun b => (branchP k b.2).map fun r => (a.1 :: r.1, b.1 :: r.2.1, r.2.2)
def markP : List Nat → Option (NodeM × List Nat)
  | 1 :: c :: l => (leafP c l).map fun r => (⟨true, r.1, r.2.1, []⟩, r.2.2)
  | 2 :: c :: l => (kidP l).bind fun a => (branchP c a.2).map fun r => (⟨false, r.1, [], a.1 :: r.2.1⟩, r.2.2)
  | _ => none
def nilB (l : List Nat) : Bool := l.all fun x => x == 0
def nodeP (l : List Nat) : Option NodeM := (markP l).bind fun r => if formB r.1 = true ∧ sizeN r.1 ≤ 256 ∧ nilB r.2 = true then some r.1 else none

theorem txt_octN (s : ByteArray) : txt (bytesN s) = s := by
  unfold txt bytesN
  rw [List.map_map]
  have : (UInt8.ofNat ∘ UInt8.toNat) = id := by funext x; simp
  rw [this, List.map_id]
theorem octN_txt {l : List Nat} (h : ∀ x ∈ l, x < 256) : bytesN (txt l) = l := by
  unfold txt bytesN
  simp only [List.map_map]
  conv => rhs; rw [← List.map_id l]
  apply List.map_congr_left
  intro x hx
  have := h x hx
  simp [Nat.mod_eq_of_lt this]
theorem txt_size' (l : List Nat) : (txt l).size = l.length := by
  unfold txt
  show (l.map UInt8.ofNat).toArray.size = _
  simp
/-- What was written is read back. -/
theorem txtP_enc (s : ByteArray) (hs : s.size < 256) (r : List Nat) : txtP (textN s ++ r) = some (s, r) := by
  have hl : (bytesN s).length = s.size := bytesN_length s
  unfold textN
  rw [Nat.mod_eq_of_lt hs, List.cons_append]
  show (if s.size ≤ (bytesN s ++ r).length then _ else _) = _
  rw [if_pos (by rw [List.length_append]; omega), List.take_left' hl, List.drop_left' hl, txt_octN]
theorem kidP_enc (k : Int) (h0 : 0 ≤ k) (h1 : k ≤ 65535) (r : List Nat) : kidP (kidB k ++ r) = some (k, r) := by
  show some ((((k % 256).toNat + 256 * (k / 256 % 256).toNat : Nat) : Int), r) = _
  congr 2
  omega
/-- What is read was written so. -/
theorem txtP_of {l : List Nat} {s : ByteArray} {r : List Nat} (hl : ∀ x ∈ l, x < 256) (h : txtP l = some (s, r)) : l = textN s ++ r ∧ s.size < 256 := by
  rcases l with _ | ⟨x, l⟩
  · cases h
  · change (if x ≤ l.length then some (txt (l.take x), l.drop x) else none) = some (s, r) at h
    split at h
    · rename_i hx
      injection h with h
      injection h with h1 h2
      subst h1; subst h2
      have hb : x < 256 := hl x (by simp)
      have ht : (l.take x).length = x := by rw [List.length_take]; omega
      refine ⟨?_, by rw [txt_size', ht]; exact hb⟩
      unfold textN
      rw [txt_size', ht, Nat.mod_eq_of_lt hb, octN_txt (fun y hy => hl y (List.mem_cons_of_mem _ (List.mem_of_mem_take hy))), List.cons_append, List.take_append_drop]
    · cases h
theorem kidP_of {l : List Nat} {k : Int} {r : List Nat} (hl : ∀ x ∈ l, x < 256) (h : kidP l = some (k, r)) : l = kidB k ++ r ∧ 0 ≤ k ∧ k ≤ 65535 := by
  rcases l with _ | ⟨x, _ | ⟨y, l⟩⟩
  · cases h
  · cases h
  · injection h with h
    injection h with h1 h2
    subst h1; subst h2
    have hx : x < 256 := hl x (by simp)
    have hy : y < 256 := hl y (by simp)
    refine ⟨?_, by omega, by omega⟩
    show x :: y :: l = (((x + 256 * y : Nat) : Int) % 256).toNat :: (((x + 256 * y : Nat) : Int) / 256 % 256).toNat :: l
    congr 1
    · omega
    · congr 1; omega
/-- The bytes of pairs. -/
def pairsB : List ByteArray → List ByteArray → List Nat
  | a :: xs, b :: ys => textN a ++ (textN b ++ pairsB xs ys)
  | _, _ => []
def armsB : List ByteArray → List Int → List Nat
  | a :: xs, b :: ys => textN a ++ (kidB b ++ armsB xs ys)
  | _, _ => []
theorem leafP_enc : ∀ (ks vs : List ByteArray) (r : List Nat), ks.length = vs.length → (∀ s ∈ ks, s.size < 256) → (∀ s ∈ vs, s.size < 256) → leafP ks.length (pairsB ks vs ++ r) = some (ks, vs, r)
  | [], [], r, _, _, _ => rfl
  | [], _ :: _, _, h, _, _ => by simp at h
  | _ :: _, [], _, h, _, _ => by simp at h
  | a :: ks, b :: vs, r, h, hk, hv => by
    have ih := leafP_enc ks vs r (by simpa using h) (fun s hs => hk s (List.mem_cons_of_mem _ hs)) (fun s hs => hv s (List.mem_cons_of_mem _ hs))
    show (txtP (textN a ++ (textN b ++ pairsB ks vs) ++ r)).bind _ = _
    rw [List.append_assoc, txtP_enc a (hk a (by simp)), List.append_assoc]
    show (txtP (textN b ++ (pairsB ks vs ++ r))).bind _ = _
    rw [txtP_enc b (hv b (by simp))]
    show (leafP ks.length (pairsB ks vs ++ r)).map _ = _
    rw [ih]
    rfl
theorem branchP_enc : ∀ (ks : List ByteArray) (cs : List Int) (r : List Nat), ks.length = cs.length → (∀ s ∈ ks, s.size < 256) → (∀ c ∈ cs, 0 ≤ c ∧ c ≤ 65535) → branchP ks.length (armsB ks cs ++ r) = some (ks, cs, r)
  | [], [], r, _, _, _ => rfl
  | [], _ :: _, _, h, _, _ => by simp at h
  | _ :: _, [], _, h, _, _ => by simp at h
  | a :: ks, b :: cs, r, h, hk, hv => by
    have ih := branchP_enc ks cs r (by simpa using h) (fun s hs => hk s (List.mem_cons_of_mem _ hs)) (fun s hs => hv s (List.mem_cons_of_mem _ hs))
    show (txtP (textN a ++ (kidB b ++ armsB ks cs) ++ r)).bind _ = _
    rw [List.append_assoc, txtP_enc a (hk a (by simp)), List.append_assoc]
    rw [Option.bind_some]
    dsimp only
    rw [kidP_enc b (hv b (by simp)).1 (hv b (by simp)).2, Option.bind_some]
    dsimp only
    rw [ih]
    rfl
theorem leafP_of : ∀ (k : Nat) (l : List Nat) (ks vs : List ByteArray) (r : List Nat), (∀ x ∈ l, x < 256) → leafP k l = some (ks, vs, r) → l = pairsB ks vs ++ r ∧ ks.length = k ∧ vs.length = k
  | 0, l, ks, vs, r, _, h => by
    injection h with h
    injection h with h1 h2
    injection h2 with h2 h3
    subst h1; subst h2; subst h3
    exact ⟨rfl, rfl, rfl⟩
  | k + 1, l, ks, vs, r, hl, h => by
    unfold leafP at h
    obtain ⟨⟨a, l1⟩, h1, h⟩ := Option.bind_eq_some_iff.1 h
    obtain ⟨⟨b, l2⟩, h2, h⟩ := Option.bind_eq_some_iff.1 h
    obtain ⟨⟨xs, ys, r'⟩, h3, h⟩ := Option.map_eq_some_iff.1 h
    injection h with e1 h
    injection h with e2 e3
    obtain ⟨q1, _⟩ := txtP_of hl h1
    have hl1 : ∀ x ∈ l1, x < 256 := fun x hx => hl x (by rw [q1]; exact List.mem_append_right _ hx)
    obtain ⟨q2, _⟩ := txtP_of hl1 h2
    have hl2 : ∀ x ∈ l2, x < 256 := fun x hx => hl1 x (by rw [q2]; exact List.mem_append_right _ hx)
    obtain ⟨q3, q4, q5⟩ := leafP_of k l2 xs ys r' hl2 h3
    subst e1; subst e2; subst e3
    refine ⟨?_, by simpa using q4, by simpa using q5⟩
    rw [q1, q2, q3]
    show _ = textN a ++ (textN b ++ pairsB xs ys) ++ r'
    simp only [List.append_assoc]
theorem branchP_of : ∀ (k : Nat) (l : List Nat) (ks : List ByteArray) (cs : List Int) (r : List Nat), (∀ x ∈ l, x < 256) → branchP k l = some (ks, cs, r) → l = armsB ks cs ++ r ∧ ks.length = k ∧ cs.length = k
  | 0, l, ks, vs, r, _, h => by
    injection h with h
    injection h with h1 h2
    injection h2 with h2 h3
    subst h1; subst h2; subst h3
    exact ⟨rfl, rfl, rfl⟩
  | k + 1, l, ks, vs, r, hl, h => by
    unfold branchP at h
    obtain ⟨⟨a, l1⟩, h1, h⟩ := Option.bind_eq_some_iff.1 h
    obtain ⟨⟨b, l2⟩, h2, h⟩ := Option.bind_eq_some_iff.1 h
    obtain ⟨⟨xs, ys, r'⟩, h3, h⟩ := Option.map_eq_some_iff.1 h
    injection h with e1 h
    injection h with e2 e3
    obtain ⟨q1, _⟩ := txtP_of hl h1
    have hl1 : ∀ x ∈ l1, x < 256 := fun x hx => hl x (by rw [q1]; exact List.mem_append_right _ hx)
    obtain ⟨q2, _⟩ := kidP_of hl1 h2
    have hl2 : ∀ x ∈ l2, x < 256 := fun x hx => hl1 x (by rw [q2]; exact List.mem_append_right _ hx)
    obtain ⟨q3, q4, q5⟩ := branchP_of k l2 xs ys r' hl2 h3
    subst e1; subst e2; subst e3
    refine ⟨?_, by simpa using q4, by simpa using q5⟩
    rw [q1, q2, q3]
    show _ = textN a ++ (kidB b ++ armsB xs ys) ++ r'
    simp only [List.append_assoc]
theorem leafP_sz : ∀ (k : Nat) (l : List Nat) (ks vs : List ByteArray) (r : List Nat), (∀ x ∈ l, x < 256) → leafP k l = some (ks, vs, r) → (∀ s ∈ ks, s.size < 256) ∧ ∀ s ∈ vs, s.size < 256
  | 0, l, ks, vs, r, _, h => by
    injection h with h
    injection h with h1 h2
    injection h2 with h2 h3
    subst h1; subst h2
    exact ⟨fun s hs => by simp at hs, fun s hs => by simp at hs⟩
  | k + 1, l, ks, vs, r, hl, h => by
    unfold leafP at h
    obtain ⟨⟨a, l1⟩, h1, h⟩ := Option.bind_eq_some_iff.1 h
    obtain ⟨⟨b, l2⟩, h2, h⟩ := Option.bind_eq_some_iff.1 h
    obtain ⟨⟨xs, ys, r'⟩, h3, h⟩ := Option.map_eq_some_iff.1 h
    injection h with e1 h
    injection h with e2 e3
    obtain ⟨q1, p1⟩ := txtP_of hl h1
    have hl1 : ∀ x ∈ l1, x < 256 := fun x hx => hl x (by rw [q1]; exact List.mem_append_right _ hx)
    obtain ⟨q2, p2⟩ := txtP_of hl1 h2
    have hl2 : ∀ x ∈ l2, x < 256 := fun x hx => hl1 x (by rw [q2]; exact List.mem_append_right _ hx)
    obtain ⟨q3, q4⟩ := leafP_sz k l2 xs ys r' hl2 h3
    subst e1; subst e2
    refine ⟨fun s hs => ?_, fun s hs => ?_⟩
    · rcases List.mem_cons.1 hs with rfl | hs
      · exact p1
      · exact q3 s hs
    · rcases List.mem_cons.1 hs with rfl | hs
      · exact p2
      · exact q4 s hs
theorem branchP_sz : ∀ (k : Nat) (l : List Nat) (ks : List ByteArray) (cs : List Int) (r : List Nat), (∀ x ∈ l, x < 256) → branchP k l = some (ks, cs, r) → ∀ s ∈ ks, s.size < 256
  | 0, l, ks, vs, r, _, h => by
    injection h with h
    injection h with h1 h2
    subst h1
    exact fun s hs => by simp at hs
  | k + 1, l, ks, vs, r, hl, h => by
    unfold branchP at h
    obtain ⟨⟨a, l1⟩, h1, h⟩ := Option.bind_eq_some_iff.1 h
    obtain ⟨⟨b, l2⟩, h2, h⟩ := Option.bind_eq_some_iff.1 h
    obtain ⟨⟨xs, ys, r'⟩, h3, h⟩ := Option.map_eq_some_iff.1 h
    injection h with e1 h
    obtain ⟨q1, p1⟩ := txtP_of hl h1
    have hl1 : ∀ x ∈ l1, x < 256 := fun x hx => hl x (by rw [q1]; exact List.mem_append_right _ hx)
    obtain ⟨q2, _⟩ := kidP_of hl1 h2
    have hl2 : ∀ x ∈ l2, x < 256 := fun x hx => hl1 x (by rw [q2]; exact List.mem_append_right _ hx)
    have q3 := branchP_sz k l2 xs ys r' hl2 h3
    subst e1
    intro s hs
    rcases List.mem_cons.1 hs with rfl | hs
    · exact p1
    · exact q3 s hs
theorem encTo_leaf (n : NodeM) (hl : n.leaf = true) (hv : n.vals.length = n.keys.length) : ∀ k, k ≤ n.keys.length → encTo n k ++ pairsB (n.keys.drop k) (n.vals.drop k) = headB n ++ pairsB n.keys n.vals
  | 0, _ => rfl
  | k + 1, hk => by
    rw [← encTo_leaf n hl hv k (by omega)]
    have h1 : n.keys.drop k = n.keys[k] :: n.keys.drop (k + 1) := List.drop_eq_getElem_cons (by omega)
    have h2 : n.vals.drop k = n.vals[k] :: n.vals.drop (k + 1) := List.drop_eq_getElem_cons (by omega)
    rw [h1, h2]
    show encTo n k ++ pieceB n k ++ _ = encTo n k ++ (textN n.keys[k] ++ (textN n.vals[k] ++ pairsB (n.keys.drop (k + 1)) (n.vals.drop (k + 1))))
    unfold pieceB
    rw [if_pos hl]
    simp [show k < n.keys.length by omega, show k < n.vals.length by omega]
theorem encTo_branch (n : NodeM) (hl : n.leaf = false) (hv : n.kids.length = n.keys.length + 1) : ∀ k, k ≤ n.keys.length → encTo n k ++ armsB (n.keys.drop k) (n.kids.drop (k + 1)) = headB n ++ armsB n.keys (n.kids.drop 1)
  | 0, _ => rfl
  | k + 1, hk => by
    rw [← encTo_branch n hl hv k (by omega)]
    have h1 : n.keys.drop k = n.keys[k] :: n.keys.drop (k + 1) := List.drop_eq_getElem_cons (by omega)
    have h2 : n.kids.drop (k + 1) = n.kids[k + 1] :: n.kids.drop (k + 1 + 1) := List.drop_eq_getElem_cons (by omega)
    rw [h1, h2]
    show encTo n k ++ pieceB n k ++ _ = encTo n k ++ (textN n.keys[k] ++ (kidB n.kids[k + 1] ++ armsB (n.keys.drop (k + 1)) (n.kids.drop (k + 1 + 1))))
    unfold pieceB
    rw [if_neg (by rw [hl]; decide)]
    simp [show k < n.keys.length by omega, show k + 1 < n.kids.length by omega]
theorem nilB_zeros (n : Nat) : nilB (List.replicate n 0) = true := by
  unfold nilB
  rw [List.all_eq_true]
  intro x hx
  rw [List.eq_of_mem_replicate hx]; rfl
theorem nilB_of {l : List Nat} (h : nilB l = true) : l = List.replicate l.length 0 := by
  unfold nilB at h
  rw [List.all_eq_true] at h
  exact List.eq_replicate_iff.2 ⟨rfl, fun x hx => by simpa using h x hx⟩
theorem markP_two (c : Nat) (l : List Nat) : markP (2 :: c :: l) = (kidP l).bind fun a => (branchP c a.2).map fun r => (⟨false, r.1, [], a.1 :: r.2.1⟩, r.2.2) := rfl
/-- The block of a node is read as that node. -/
theorem nodeP_enc (n : NodeM) (hf : formB n = true) (hs : sizeN n ≤ 256) : nodeP (encB n) = some n := by
  obtain ⟨lf, ks, vs, cs⟩ := n
  have hkz := keyOk_size (form_keys hf)
  have hvz := form_vals hf
  have hkl : ks.length ≤ 255 := by
    have h1 := sumN_ge hf ks.length (Nat.le_refl _)
    have h2 : headN lf + sumN ⟨lf, ks, vs, cs⟩ ks.length ≤ 256 := hs
    have h3 : 2 ≤ headN lf := by unfold headN; split <;> omega
    omega
  cases lf with
  | true =>
    obtain ⟨e1, e2⟩ := form_leaf_eq hf
    obtain rfl : cs = [] := List.eq_nil_of_length_eq_zero e2
    have h := encTo_leaf ⟨true, ks, vs, []⟩ rfl e1 ks.length (Nat.le_refl _)
    simp only [List.drop_length] at h
    have h0 : pairsB [] (vs.drop ks.length) = [] := rfl
    rw [h0, List.append_nil] at h
    unfold encB padB
    rw [h]
    show nodeP ((1 :: ks.length % 256 :: pairsB ks vs) ++ _) = _
    rw [Nat.mod_eq_of_lt (by omega)]
    unfold nodeP
    show ((leafP ks.length (pairsB ks vs ++ _)).map _).bind _ = _
    rw [leafP_enc ks vs _ e1.symm (fun s hs => by have := hkz s hs; omega) (fun s hs => by have := hvz s hs; omega)]
    show (if formB ⟨true, ks, vs, []⟩ = true ∧ sizeN ⟨true, ks, vs, []⟩ ≤ 256 ∧ nilB (List.replicate _ 0) = true then some (⟨true, ks, vs, []⟩ : NodeM) else none) = _
    rw [if_pos ⟨hf, hs, nilB_zeros _⟩]
  | false =>
    obtain ⟨e0, e1, e2⟩ := form_branch_eq hf
    obtain rfl : vs = [] := List.eq_nil_of_length_eq_zero e2
    have hk := form_kids hf rfl
    rcases cs with _ | ⟨c0, cs⟩
    · simp at e1
    have h := encTo_branch ⟨false, ks, [], c0 :: cs⟩ rfl e1 ks.length (Nat.le_refl _)
    simp only [List.drop_length] at h
    have h0 : armsB [] ((c0 :: cs).drop (ks.length + 1)) = [] := rfl
    rw [h0, List.append_nil] at h
    unfold encB padB
    rw [h]
    show nodeP ((2 :: ks.length % 256 :: kidB c0) ++ armsB ks cs ++ _) = _
    rw [Nat.mod_eq_of_lt (by omega)]
    unfold nodeP
    obtain ⟨R, hR⟩ : ∃ R, R = List.replicate (256 - (headB ⟨false, ks, [], c0 :: cs⟩ ++ armsB ks ((c0 :: cs).drop 1)).length) 0 := ⟨_, rfl⟩
    have hm : markP (2 :: ks.length :: (kidB c0 ++ (armsB ks cs ++ R))) = some (⟨false, ks, [], c0 :: cs⟩, R) := by
      rw [markP_two, kidP_enc c0 (hk c0 (by simp)).1 (by have := (hk c0 (by simp)).2; omega), Option.bind_some]
      dsimp only
      rw [branchP_enc ks cs R (by simpa using e1.symm) (fun s hs => by have := hkz s hs; omega) (fun c hc => by have := hk c (List.mem_cons_of_mem _ hc); omega)]
      rfl
    have hcat : (2 :: ks.length :: kidB c0) ++ armsB ks cs ++ R = 2 :: ks.length :: (kidB c0 ++ (armsB ks cs ++ R)) := by simp
    rw [← hR, hcat, hm, Option.bind_some]
    dsimp only
    rw [if_pos ⟨hf, hs, by rw [hR]; exact nilB_zeros _⟩]
/-- What is read as a node is that node's block. -/
theorem nodeP_of {l : List Nat} {n : NodeM} (hlen : l.length = 256) (hl : ∀ x ∈ l, x < 256) (h : nodeP l = some n) : formB n = true ∧ sizeN n ≤ 256 ∧ encB n = l := by
  unfold nodeP at h
  obtain ⟨⟨m, r⟩, h1, h⟩ := Option.bind_eq_some_iff.1 h
  dsimp only at h
  split at h
  · rename_i hok
    obtain ⟨hf, hs, hn⟩ := hok
    injection h with h
    subst h
    refine ⟨hf, hs, ?_⟩
    have hr := nilB_of hn
    rcases l with _ | ⟨x, _ | ⟨c, l⟩⟩
    · cases h1
    · unfold markP at h1; split at h1 <;> first | cases h1 | (rename_i e; cases e)
    have hc : c < 256 := hl c (by simp)
    have hl2 : ∀ y ∈ l, y < 256 := fun y hy => hl y (by simp [hy])
    have hx : x = 1 ∨ x = 2 := by
      unfold markP at h1
      split at h1
      · rename_i e; injection e with e _; exact Or.inl e
      · rename_i e; injection e with e _; exact Or.inr e
      · cases h1
    rcases hx with rfl | rfl
    · change (leafP c l).map _ = _ at h1
      obtain ⟨⟨ks, vs, r'⟩, h3, h4⟩ := Option.map_eq_some_iff.1 h1
      injection h4 with h4 h5
      subst h4
      dsimp only at h5
      subst h5
      obtain ⟨q1, q2, q3⟩ := leafP_of c l ks vs r' hl2 h3
      have h := encTo_leaf ⟨true, ks, vs, []⟩ rfl (by show vs.length = ks.length; omega) ks.length (Nat.le_refl _)
      simp only [List.drop_length] at h
      have h0 : pairsB [] (vs.drop ks.length) = [] := rfl
      rw [h0, List.append_nil] at h
      unfold encB padB
      rw [h, q1]
      show (1 :: ks.length % 256 :: pairsB ks vs) ++ List.replicate (256 - (1 :: ks.length % 256 :: pairsB ks vs).length) 0 = _
      rw [q2, Nat.mod_eq_of_lt hc]
      have hz : (1 :: c :: (pairsB ks vs ++ r')).length = 256 := by rw [← q1]; exact hlen
      rw [hr]
      have e : 256 - (1 :: c :: pairsB ks vs).length = r'.length := by simp at hz ⊢; omega
      rw [e]
      simp
    · change (kidP l).bind _ = _ at h1
      obtain ⟨⟨k0, l1⟩, h2, h1⟩ := Option.bind_eq_some_iff.1 h1
      obtain ⟨⟨ks, cs, r'⟩, h3, h4⟩ := Option.map_eq_some_iff.1 h1
      injection h4 with h4 h5
      subst h4
      dsimp only at h5 h3
      subst h5
      obtain ⟨p1, _, _⟩ := kidP_of hl2 h2
      have hl3 : ∀ y ∈ l1, y < 256 := fun y hy => hl2 y (by rw [p1]; exact List.mem_append_right _ hy)
      obtain ⟨q1, q2, q3⟩ := branchP_of c l1 ks cs r' hl3 h3
      have h := encTo_branch ⟨false, ks, [], k0 :: cs⟩ rfl (by show (k0 :: cs).length = ks.length + 1; simp; omega) ks.length (Nat.le_refl _)
      simp only [List.drop_length] at h
      have h0 : armsB [] ((k0 :: cs).drop (ks.length + 1)) = [] := rfl
      rw [h0, List.append_nil] at h
      unfold encB padB
      rw [h, p1, q1]
      show ((2 :: ks.length % 256 :: kidB k0) ++ armsB ks cs) ++ List.replicate (256 - ((2 :: ks.length % 256 :: kidB k0) ++ armsB ks cs).length) 0 = _
      rw [q2, Nat.mod_eq_of_lt hc]
      have hz : (2 :: c :: (kidB k0 ++ (armsB ks cs ++ r'))).length = 256 := by rw [← q1, ← p1]; exact hlen
      rw [hr]
      have e : 256 - ((2 :: c :: kidB k0) ++ armsB ks cs).length = r'.length := by simp at hz ⊢; omega
      rw [e]
      simp
  · cases h
end Go.Proofs.Ytopkkolcimmedaa
