/- A leaf that grows and is cut into parts: the parts together are the leaf. Plain maths, no program. -/
import Derived.Test.YtopkkolcimmedaaPFA
import Derived.Test.YtopkkolcimmedaaHalvesN
import Derived.Test.YtopkkolcimmedaaPFind
namespace Go.Proofs.Ytopkkolcimmedaa
open Go.RowKit

/-- The pairs of a part: its keys, its values. -/
abbrev PartM := List ByteArray × List ByteArray
def ndP (p : PartM) : NodeM := ⟨true, p.1, p.2, []⟩
def flatK (ps : List PartM) : List ByteArray := ps.flatMap (·.1)
def flatV (ps : List PartM) : List ByteArray := ps.flatMap (·.2)
def lessB (a b : ByteArray) : Bool := Op.bytesLess a.toList b.toList
theorem lessB_irr (a : ByteArray) : lessB a a = false := bless_irr _
theorem lessB_trans {a b c : ByteArray} (h1 : lessB a b = true) (h2 : lessB b c = true) : lessB a c = true := bless_trans _ _ _ h1 h2
theorem lessB_tri {a b : ByteArray} (h : lessB a b = false) (hne : a ≠ b) : lessB b a = true := by
  refine bless_tri _ _ h (fun e => hne ?_)
  have := beq_toList a b
  rw [e] at this
  simpa using this.symm
theorem flatK_append (a b : List PartM) : flatK (a ++ b) = flatK a ++ flatK b := by simp [flatK]
theorem flatV_append (a b : List PartM) : flatV (a ++ b) = flatV a ++ flatV b := by simp [flatV]
theorem flatK_one (p : PartM) : flatK [p] = p.1 := by simp [flatK]
theorem flatV_one (p : PartM) : flatV [p] = p.2 := by simp [flatV]

/-- A row of keys is in form just if its keys have the sizes and go up. -/
theorem keysOk_pair (ks : List ByteArray) : keysOk ks = true ↔ (∀ s ∈ ks, 1 ≤ s.size ∧ s.size ≤ 20) ∧ ks.Pairwise (fun a b => lessB a b = true) := by
  constructor
  · intro h
    refine ⟨keyOk_size h, ?_⟩
    rw [List.pairwise_iff_getElem]
    intro i j hi hj hij
    obtain ⟨d, rfl⟩ : ∃ d, j = i + d + 1 := ⟨j - i - 1, by omega⟩
    exact keys_up h d hj
  · rintro ⟨h1, h2⟩
    refine keysOk_all fun j hj => ?_
    have hs := h1 _ (List.getElem_mem hj)
    rcases Nat.eq_zero_or_pos j with rfl | hp
    · exact keyOk_zero hj hs.1 hs.2
    · refine keyOk_up hj hs.1 hs.2 hp ?_
      exact (List.pairwise_iff_getElem.1 h2) (j - 1) j (by omega) hj (by omega)
theorem rank_count (ks : List ByteArray) (x : ByteArray) : ∀ k, k ≤ ks.length → rankN ks x k = (ks.take k).countP (fun a => lessB a x)
  | 0, _ => rfl
  | k + 1, h => by
    rw [rankN, rank_count ks x k (by omega), take_next (show k < ks.length by omega), List.countP_append, lessK_in (show k < ks.length by omega), List.countP_singleton]
    congr 1
    show (lessB _ _).toNat = _
    cases lessB (ks[k]'(by omega)) x <;> rfl
theorem at_count (ks : List ByteArray) (x : ByteArray) : atN ks x = ks.countP (fun a => lessB a x) := by
  unfold atN; rw [rank_count ks x _ (Nat.le_refl _), List.take_length]
theorem hit_mem (ks : List ByteArray) (x : ByteArray) : hitB ks x = true ↔ x ∈ ks := by
  unfold hitB
  rw [hitN_iff ks x _ (Nat.le_refl _)]
  constructor
  · rintro ⟨j, hj, _, rfl⟩; exact List.getElem_mem hj
  · intro hm
    obtain ⟨j, hj, rfl⟩ := List.getElem_of_mem hm
    exact ⟨j, hj, hj, rfl⟩
theorem count_all {p : ByteArray → Bool} : ∀ {l : List ByteArray}, (∀ a ∈ l, p a = true) → l.countP p = l.length := fun h => List.countP_eq_length.2 h
theorem count_none {p : ByteArray → Bool} : ∀ {l : List ByteArray}, (∀ a ∈ l, p a = false) → l.countP p = 0 := fun h => List.countP_eq_zero.2 (fun a ha => by rw [h a ha]; simp)
theorem putL_mid {α : Type} (A P B : List α) (a h : Nat) (x : α) (ha : a + h ≤ P.length) : putL (A ++ P ++ B) (A.length + a) h x = A ++ putL P a h x ++ B := by
  unfold putL
  rw [List.append_assoc A P B, List.take_append, List.drop_append, List.take_append, List.drop_append]
  have e1 : A.length + a - A.length = a := by omega
  have e2 : A.length + a + h - A.length = a + h := by omega
  rw [e1, e2, List.take_of_length_le (show A.length ≤ A.length + a by omega), List.drop_of_length_le (show A.length ≤ A.length + a + h by omega), show a - P.length = 0 by omega, show a + h - P.length = 0 by omega]
  simp
/-- What lies below x ahead, and above it behind: a pair put between. -/
theorem set_mid {KA ks KB VA vs VB : List ByteArray} {x y : ByteArray} (hk : keysOk ks = true) (hv : vs.length = ks.length) (hVA : VA.length = KA.length) (h1 : ∀ a ∈ KA, lessB a x = true) (h2 : ∀ b ∈ KB, lessB x b = true) :
    setK (KA ++ ks ++ KB) x = KA ++ setK ks x ++ KB ∧ setV (KA ++ ks ++ KB) (VA ++ vs ++ VB) x y = VA ++ setV ks vs x y ++ VB := by
  have h2' : ∀ b ∈ KB, lessB b x = false := fun b hb => by
    cases hc : lessB b x with
    | false => rfl
    | true => have := lessB_trans (h2 b hb) hc; rw [lessB_irr] at this; cases this
  have ea : atN (KA ++ ks ++ KB) x = KA.length + atN ks x := by
    rw [at_count, at_count, List.countP_append, List.countP_append, count_all h1, count_none h2']; rfl
  have eh : hitB (KA ++ ks ++ KB) x = hitB ks x := by
    rw [Bool.eq_iff_iff, hit_mem, hit_mem]
    simp only [List.mem_append]
    constructor
    · rintro ((h | h) | h)
      · have := h1 x h; rw [lessB_irr] at this; cases this
      · exact h
      · have := h2 x h; rw [lessB_irr] at this; cases this
    · exact fun h => Or.inl (Or.inr h)
  have hb : atN ks x + (hitB ks x).toNat ≤ ks.length := by
    cases hc : hitB ks x with
    | false => simpa using atN_le ks x
    | true => obtain ⟨hl, _⟩ := hit_at hk hc; show atN ks x + 1 ≤ _; omega
  refine ⟨?_, ?_⟩
  · unfold setK
    rw [ea, eh, putL_mid _ _ _ _ _ _ hb]
  · unfold setV
    rw [ea, eh, ← hVA, putL_mid _ _ _ _ _ _ (by rw [hv]; exact hb)]
/-- A row in form stays in form when a key in form is put. -/
theorem setK_ok {ks : List ByteArray} {x : ByteArray} (h : keysOk ks = true) (h1 : 1 ≤ x.size) (h2 : x.size ≤ 20) : keysOk (setK ks x) = true := by
  cases hc : hitB ks x with
  | true =>
    obtain ⟨hl, he⟩ := hit_at h hc
    unfold setK
    rw [hc, show (true : Bool).toNat = 1 from rfl, putL_same hl he]
    exact h
  | false =>
    obtain ⟨hs, hp⟩ := (keysOk_pair ks).1 h
    unfold setK
    rw [hc, show (false : Bool).toNat = 0 from rfl]
    unfold putL
    rw [Nat.add_zero]
    have hx : x ∉ ks := fun hm => by
      rw [(hit_mem ks x).2 hm] at hc; cases hc
    rw [keysOk_pair]
    refine ⟨fun s hs' => ?_, ?_⟩
    · rcases List.mem_append.1 hs' with h3 | h3
      · exact hs s (List.mem_of_mem_take h3)
      · rcases List.mem_cons.1 h3 with rfl | h3
        · exact ⟨h1, h2⟩
        · exact hs s (List.mem_of_mem_drop h3)
    · have lo : ∀ a ∈ ks.take (atN ks x), lessB a x = true := fun a ha => by
        obtain ⟨j, hj, rfl⟩ := List.getElem_of_mem ha
        rw [List.length_take] at hj
        have h3 := (lessK_is h j).2 (show j < atN ks x by omega)
        rw [lessK_in (show j < ks.length by omega)] at h3
        rw [List.getElem_take]
        exact h3
      have hi : ∀ b ∈ ks.drop (atN ks x), lessB x b = true := fun b hb => by
        have hm := List.mem_of_mem_drop hb
        obtain ⟨j, hj, rfl⟩ := List.getElem_of_mem hb
        rw [List.length_drop] at hj
        rw [List.getElem_drop] at hm ⊢
        refine lessB_tri ?_ (fun e => hx (e ▸ hm))
        cases h3 : lessB (ks[atN ks x + j]'(by omega)) x with
        | false => rfl
        | true =>
          have h4 : lessK ks x (atN ks x + j) = true := by rw [lessK_in (show atN ks x + j < ks.length by omega)]; exact h3
          have := (lessK_is h _).1 h4
          omega
      have hsplit := hp
      rw [← List.take_append_drop (atN ks x) ks, List.pairwise_append] at hsplit
      rw [List.pairwise_append]
      refine ⟨hsplit.1, List.pairwise_cons.2 ⟨hi, hsplit.2.1⟩, fun a ha b hb => ?_⟩
      rcases List.mem_cons.1 hb with rfl | hb
      · exact lo a ha
      · exact lessB_trans (lo a ha) (hi b hb)
theorem setK_length {ks : List ByteArray} {x : ByteArray} (h : keysOk ks = true) : (setK ks x).length = ks.length + (if hitB ks x then 0 else 1) := by
  unfold setK
  cases hc : hitB ks x with
  | false => rw [show (false : Bool).toNat = 0 from rfl, putL_length (atN_le ks x)]; rfl
  | true =>
    obtain ⟨hl, he⟩ := hit_at h hc
    rw [show (true : Bool).toNat = 1 from rfl, putL_set hl, List.length_set]; rfl
theorem setV_length {ks vs : List ByteArray} {x y : ByteArray} (h : keysOk ks = true) (hv : vs.length = ks.length) : (setV ks vs x y).length = ks.length + (if hitB ks x then 0 else 1) := by
  unfold setV
  have hle := atN_le ks x
  cases hc : hitB ks x with
  | false => rw [show (false : Bool).toNat = 0 from rfl, putL_length (by omega), hv]; rfl
  | true =>
    obtain ⟨hl, he⟩ := hit_at h hc
    rw [show (true : Bool).toNat = 1 from rfl, putL_set (by omega), List.length_set, hv]; rfl
theorem mem_putL {α : Type} {l : List α} {a h : Nat} {x s : α} (hs : s ∈ putL l a h x) : s = x ∨ s ∈ l := by
  unfold putL at hs
  rcases List.mem_append.1 hs with h | h
  · exact Or.inr (List.mem_of_mem_take h)
  · rcases List.mem_cons.1 h with h | h
    · exact Or.inl h
    · exact Or.inr (List.mem_of_mem_drop h)
/-- A leaf in form. -/
theorem leaf_form (ks vs : List ByteArray) : formB ⟨true, ks, vs, []⟩ = true ↔ keysOk ks = true ∧ vs.length = ks.length ∧ ∀ s ∈ vs, s.size ≤ 100 := by
  constructor
  · intro h
    exact ⟨form_keys h, (form_leaf_eq h).1, form_vals h⟩
  · rintro ⟨h1, h2, h3⟩
    rw [formB_rest h1, rest_leaf (by
      rw [List.all_eq_true]
      intro s hs
      unfold valOk
      exact decide_eq_true (h3 s hs)), decide_eq_true h2]
    rfl
theorem leaf_set {ks vs : List ByteArray} {x y : ByteArray} (h : formB ⟨true, ks, vs, []⟩ = true) (h1 : 1 ≤ x.size) (h2 : x.size ≤ 20) (h3 : y.size ≤ 100) : formB ⟨true, setK ks x, setV ks vs x y, []⟩ = true := by
  obtain ⟨a, b, c⟩ := (leaf_form ks vs).1 h
  refine (leaf_form _ _).2 ⟨setK_ok a h1 h2, by rw [setK_length a, setV_length a b], fun s hs => ?_⟩
  rcases mem_putL hs with rfl | hs
  · exact h3
  · exact c s hs
/-- What a row of texts takes. -/
def szL (l : List ByteArray) : Nat := (l.map fun s => 1 + s.size).sum
theorem szL_append (a b : List ByteArray) : szL (a ++ b) = szL a + szL b := by simp [szL, List.sum_append]
theorem szL_put (l : List ByteArray) (a h : Nat) (x : ByteArray) : szL (putL l a h x) ≤ szL l + 1 + x.size := by
  unfold putL
  have e : szL l = szL (l.take a) + szL (l.drop a) := by rw [← szL_append, List.take_append_drop]
  have e2 : szL (l.drop a) = szL ((l.drop a).take h) + szL (l.drop (a + h)) := by rw [← List.drop_drop, ← szL_append, List.take_append_drop]
  rw [szL_append, show szL (x :: l.drop (a + h)) = 1 + x.size + szL (l.drop (a + h)) by simp [szL]]
  omega
theorem sum_leaf (ks vs : List ByteArray) (hv : vs.length = ks.length) : ∀ k, k ≤ ks.length → sumN ⟨true, ks, vs, []⟩ k = szL (ks.take k) + szL (vs.take k)
  | 0, _ => rfl
  | k + 1, h => by
    rw [sumN, sum_leaf ks vs hv k (by omega), take_next (show k < ks.length by omega), take_next (show k < vs.length by omega), szL_append, szL_append]
    unfold keyN
    simp only [if_true]
    rw [if_pos (show k < vs.length by omega), getD_at (show k < ks.length by omega), getD_at (show k < vs.length by omega)]
    simp only [szL, List.map_cons, List.map_nil, List.sum_cons, List.sum_nil]
    omega
theorem size_leaf (ks vs : List ByteArray) (hv : vs.length = ks.length) : sizeN ⟨true, ks, vs, []⟩ = 2 + (szL ks + szL vs) := by
  show 2 + sumN ⟨true, ks, vs, []⟩ ks.length = _
  rw [sum_leaf ks vs hv _ (Nat.le_refl _), List.take_length, ← hv, List.take_length]
theorem size_set {ks vs : List ByteArray} {x y : ByteArray} (h : formB ⟨true, ks, vs, []⟩ = true) (hs : sizeN ⟨true, ks, vs, []⟩ ≤ 256) (h2 : x.size ≤ 20) (h3 : y.size ≤ 100) : sizeN ⟨true, setK ks x, setV ks vs x y, []⟩ ≤ 378 := by
  obtain ⟨a, b, c⟩ := (leaf_form ks vs).1 h
  rw [size_leaf _ _ b] at hs
  rw [size_leaf _ _ (by rw [setK_length a, setV_length a b])]
  have h4 := szL_put ks (atN ks x) (hitB ks x).toNat x
  have h5 := szL_put vs (atN ks x) (hitB ks x).toNat y
  unfold setK setV
  omega
theorem size_two {ks vs : List ByteArray} (h : formB ⟨true, ks, vs, []⟩ = true) (hs : 256 < sizeN ⟨true, ks, vs, []⟩) : 2 ≤ ks.length := by
  have h1 := form_sum_le h ks.length
  have h2 : sizeN ⟨true, ks, vs, []⟩ = 2 + sumN ⟨true, ks, vs, []⟩ ks.length := rfl
  omega
/-- What is kept of the parts: each can stand in a block, and together they are in form. -/
structure PartsOk (ps : List PartM) : Prop where
  keys : keysOk (flatK ps) = true
  each : ∀ p ∈ ps, formB (ndP p) = true ∧ sizeN (ndP p) ≤ 256
  some : ps ≠ []
  full : ps = [([], [])] ∨ ∀ p ∈ ps, p.1 ≠ []
theorem PartsOk.zero : PartsOk [([], [])] :=
  ⟨rfl, fun p hp => by simp at hp; subst hp; exact ⟨rfl, by decide⟩, by simp, Or.inl rfl⟩
theorem flat_length {ps : List PartM} (h : ∀ p ∈ ps, formB (ndP p) = true) : (flatV ps).length = (flatK ps).length := by
  induction ps with
  | nil => rfl
  | cons p ps ih =>
    have e1 : flatK (p :: ps) = p.1 ++ flatK ps := by simp [flatK]
    have e2 : flatV (p :: ps) = p.2 ++ flatV ps := by simp [flatV]
    rw [e1, e2, List.length_append, List.length_append, ih (fun q hq => h q (List.mem_cons_of_mem _ hq)), ((leaf_form p.1 p.2).1 (h p (List.mem_cons_self ..))).2.1]
theorem flat_form {ps : List PartM} (h : PartsOk ps) : formB (ndP (flatK ps, flatV ps)) = true := by
  refine (leaf_form _ _).2 ⟨h.keys, flat_length (fun p hp => (h.each p hp).1), fun s hs => ?_⟩
  obtain ⟨p, hp, hs⟩ := List.mem_flatMap.1 hs
  exact ((leaf_form p.1 p.2).1 (h.each p hp).1).2.2 s hs
theorem part_small {p : PartM} (h : formB (ndP p) = true) (hs : sizeN (ndP p) ≤ 256) : p.1.length ≤ 256 := by
  obtain ⟨a, b, _⟩ := (leaf_form p.1 p.2).1 h
  have h1 := size_leaf p.1 p.2 b
  have h2 : p.1.length ≤ szL p.1 := by
    clear h hs h1 a b
    generalize p.1 = l
    induction l with
    | nil => exact Nat.zero_le _
    | cons x l ih =>
      show _ ≤ szL ([x] ++ l)
      rw [szL_append, show szL [x] = 1 + x.size by simp [szL], List.length_cons]
      omega
  have h3 : sizeN (ndP p) = 2 + (szL p.1 + szL p.2) := h1
  omega
/-- Does the key stand in part p or behind it? -/
def geP (p : PartM) (x : ByteArray) : Bool := decide (0 < p.1.length) && !(lessB x (p.1.getD 0 ByteArray.empty))
/-- The place that the loop has found among the first k parts. -/
def atTo (ps : List PartM) (x : ByteArray) : Nat → Nat
  | 0 => 0
  | k + 1 => if geP (ps.getD k ([], [])) x then k else atTo ps x k
theorem atTo_le (ps : List PartM) (x : ByteArray) : ∀ k, atTo ps x k ≤ k - 1
  | 0 => Nat.le_refl _
  | k + 1 => by
    have := atTo_le ps x k
    unfold atTo
    split <;> omega
theorem atTo_is (ps : List PartM) (x : ByteArray) : ∀ k, (atTo ps x k = 0 ∨ geP (ps.getD (atTo ps x k) ([], [])) x = true) ∧ ∀ j, atTo ps x k < j → j < k → geP (ps.getD j ([], [])) x = false
  | 0 => ⟨Or.inl rfl, fun j _ h => by omega⟩
  | k + 1 => by
    obtain ⟨h1, h2⟩ := atTo_is ps x k
    unfold atTo
    cases hg : geP (ps.getD k ([], [])) x with
    | true =>
      rw [if_pos rfl]
      exact ⟨Or.inr hg, fun j h3 h4 => by omega⟩
    | false =>
      rw [if_neg (by simp)]
      refine ⟨h1, fun j h3 h4 => ?_⟩
      by_cases e : j = k
      · rw [e]; exact hg
      · exact h2 j h3 (by omega)
theorem parts_split {ps : List PartM} {k : Nat} (hk : k < ps.length) : ps = ps.take k ++ [ps[k]] ++ ps.drop (k + 1) := by
  rw [List.append_assoc, List.singleton_append, List.getElem_cons_drop, List.take_append_drop]
theorem mem_flat {ps : List PartM} {s : ByteArray} (h : s ∈ flatK ps) : ∃ (j : Nat) (hj : j < ps.length), s ∈ ps[j].1 := by
  unfold flatK at h
  obtain ⟨p, hp, hs⟩ := List.mem_flatMap.1 h
  obtain ⟨j, hj, rfl⟩ := List.getElem_of_mem hp
  exact ⟨j, hj, hs⟩
/-- All keys ahead of the place are below x, and all behind it above. -/
theorem parts_low {ps : List PartM} {x : ByteArray} (h : PartsOk ps) (hx : 1 ≤ x.size) : (∀ a ∈ flatK (ps.take (atTo ps x ps.length)), lessB a x = true) ∧ (∀ b ∈ flatK (ps.drop (atTo ps x ps.length + 1)), lessB x b = true) := by
  have hpos : 0 < ps.length := List.length_pos_iff.2 h.some
  obtain ⟨n, hn⟩ : ∃ n, n = atTo ps x ps.length := ⟨_, rfl⟩
  have hlt : n < ps.length := by have := atTo_le ps x ps.length; omega
  have hat := atTo_is ps x ps.length
  rw [← hn] at hat ⊢
  obtain ⟨h1, h2⟩ := hat
  obtain ⟨_, hp⟩ := (keysOk_pair _).1 h.keys
  have hsp := parts_split hlt
  have hp2 := hp
  rw [hsp, flatK_append, flatK_append, flatK_one, List.pairwise_append] at hp2
  refine ⟨fun a ha => ?_, fun b hb => ?_⟩
  · rcases h1 with h1 | h1
    · rw [h1] at ha; simp [flatK] at ha
    · have eg : ps.getD n ([], []) = ps[n] := by simp [hlt]
      rw [eg] at h1
      unfold geP at h1
      simp only [Bool.and_eq_true, decide_eq_true_eq, Bool.not_eq_true'] at h1
      obtain ⟨h3, h4⟩ := h1
      rw [getD_at h3] at h4
      have h5 : lessB a ps[n].1[0] = true := by
        have := hp2.1
        rw [List.pairwise_append] at this
        exact this.2.2 a ha _ (List.getElem_mem h3)
      by_cases e : x = ps[n].1[0]
      · rw [e]; exact h5
      · exact lessB_trans h5 (lessB_tri h4 e)
  · obtain ⟨j, hj, hbj⟩ := mem_flat hb
    rw [List.length_drop] at hj
    rw [List.getElem_drop] at hbj
    have hjl : n + 1 + j < ps.length := by omega
    have h3 := h2 (n + 1 + j) (by omega) hjl
    have eg : ps.getD (n + 1 + j) ([], []) = ps[n + 1 + j] := by simp [hjl]
    rw [eg] at h3
    have hl : 0 < ps[n + 1 + j].1.length := List.length_pos_of_mem hbj
    unfold geP at h3
    rw [decide_eq_true hl, Bool.true_and, getD_at hl] at h3
    have h4 : lessB x ps[n + 1 + j].1[0] = true := by simpa using h3
    obtain ⟨i, hi, rfl⟩ := List.getElem_of_mem hbj
    rcases Nat.eq_zero_or_pos i with rfl | hip
    · exact h4
    · have hk := (form_keys (h.each _ (List.getElem_mem hjl)).1 : keysOk ps[n + 1 + j].1 = true)
      have := ((keysOk_pair _).1 hk).2
      exact lessB_trans h4 ((List.pairwise_iff_getElem.1 this) 0 i hl hi hip)
/-- The parts with a pair more: in the part at n; the others stay. -/
def grownP (p : PartM) (x y : ByteArray) : PartM := (setK p.1 x, setV p.1 p.2 x y)
def cutP (p : PartM) : List PartM := if 256 < sizeN (ndP p) then [(p.1.take (midN (ndP p)), p.2.take (midN (ndP p))), (p.1.drop (midN (ndP p)), p.2.drop (midN (ndP p)))] else [p]
def stepP (ps : List PartM) (x y : ByteArray) : List PartM := ps.take (atTo ps x ps.length) ++ cutP (grownP (ps.getD (atTo ps x ps.length) ([], [])) x y) ++ ps.drop (atTo ps x ps.length + 1)
theorem mid_in {p : PartM} (h : formB (ndP p) = true) (hs : 256 < sizeN (ndP p)) : 1 ≤ midN (ndP p) ∧ midN (ndP p) < p.1.length := by
  have h2 := size_two (ks := p.1) (vs := p.2) h hs
  have hl : limN (ndP p) = p.1.length - 0 - 1 := rfl
  have h3 := bestTo_le (ndP p) (limN (ndP p))
  have h4 := bestTo_pos (ndP p) (limN (ndP p)) (by omega)
  have h6 : (ndP p).keys.length = p.1.length := rfl
  unfold midN
  omega
theorem cut_flat (p : PartM) : flatK (cutP p) = p.1 ∧ flatV (cutP p) = p.2 := by
  unfold cutP
  split
  · simp [flatK, flatV]
  · simp [flatK, flatV]
theorem part_lo (p : PartM) : partM (ndP p) 0 (midN (ndP p)) = ndP (p.1.take (midN (ndP p)), p.2.take (midN (ndP p))) := rfl
theorem part_hi {p : PartM} (h : formB (ndP p) = true) : partM (ndP p) (midN (ndP p) + betN true) p.1.length = ndP (p.1.drop (midN (ndP p)), p.2.drop (midN (ndP p))) := by
  obtain ⟨_, b, _⟩ := (leaf_form p.1 p.2).1 h
  unfold partM ndP
  simp only [if_true]
  rw [show betN true = 0 from rfl, Nat.add_zero, List.take_length, ← b, List.take_length]
theorem cut_each {p : PartM} (h : formB (ndP p) = true) (hs : sizeN (ndP p) ≤ 378) : ∀ q ∈ cutP p, formB (ndP q) = true ∧ sizeN (ndP q) ≤ 256 := by
  intro q hq
  unfold cutP at hq
  by_cases hc : 256 < sizeN (ndP p)
  · rw [if_pos hc] at hq
    have hm := mid_in h hc
    have h2 := size_two (ks := p.1) (vs := p.2) h hc
    have h3 := halves_small (lf := true) h (show 2 + 0 ≤ p.1.length by omega) hs
    have f1 : formB (partM (ndP p) 0 (midN (ndP p))) = true := form_cut (lf := true) (ks := p.1) (vs := p.2) (cs := []) h 0 (midN (ndP p)) (by have := hm.1; omega) (by have := hm.2; omega)
    have f2 : formB (partM (ndP p) (midN (ndP p) + betN true) p.1.length) = true := form_cut (lf := true) (ks := p.1) (vs := p.2) (cs := []) h (midN (ndP p) + betN true) p.1.length (by rw [show betN true = 0 from rfl]; have := hm.2; omega) (Nat.le_refl _)
    rw [part_hi h] at f2
    rw [part_lo] at f1
    have s1 : sizeN (partM (ndP p) 0 (midN (ndP p))) ≤ 256 := h3.1
    have s2 : sizeN (partM (ndP p) (midN (ndP p) + betN true) p.1.length) ≤ 256 := h3.2
    rw [part_hi h] at s2
    rw [part_lo] at s1
    simp only [List.mem_cons, List.not_mem_nil, or_false] at hq
    rcases hq with rfl | rfl
    · exact ⟨f1, s1⟩
    · exact ⟨f2, s2⟩
  · rw [if_neg hc] at hq
    simp only [List.mem_cons, List.not_mem_nil, or_false] at hq
    subst hq
    exact ⟨h, by omega⟩
theorem cut_full {p : PartM} (h : formB (ndP p) = true) (hne : p.1 ≠ []) : ∀ q ∈ cutP p, q.1 ≠ [] := by
  intro q hq
  unfold cutP at hq
  by_cases hc : 256 < sizeN (ndP p)
  · rw [if_pos hc] at hq
    have hm := mid_in h hc
    simp only [List.mem_cons, List.not_mem_nil, or_false] at hq
    rcases hq with rfl | rfl
    · intro e
      have e : p.1.take (midN (ndP p)) = [] := e
      have h9 : (p.1.take (midN (ndP p))).length = 0 := by rw [e]; rfl
      rw [List.length_take] at h9
      omega
    · intro e
      have e : p.1.drop (midN (ndP p)) = [] := e
      have h9 : (p.1.drop (midN (ndP p))).length = 0 := by rw [e]; rfl
      rw [List.length_drop] at h9
      omega
  · rw [if_neg hc] at hq
    simp only [List.mem_cons, List.not_mem_nil, or_false] at hq
    subst hq
    exact hne
theorem step_flat {ps : List PartM} {x y : ByteArray} (h : PartsOk ps) (hx : 1 ≤ x.size) : flatK (stepP ps x y) = setK (flatK ps) x ∧ flatV (stepP ps x y) = setV (flatK ps) (flatV ps) x y := by
  have hpos : 0 < ps.length := List.length_pos_iff.2 h.some
  have hlow := parts_low h hx
  unfold stepP
  have hlt : atTo ps x ps.length < ps.length := by have := atTo_le ps x ps.length; omega
  generalize atTo ps x ps.length = n at *
  have eg : ps.getD n ([], []) = ps[n] := by simp [hlt]
  have hf := (h.each _ (List.getElem_mem hlt)).1
  obtain ⟨a, b, c⟩ := (leaf_form ps[n].1 ps[n].2).1 hf
  have hva := flat_length (ps := ps.take n) (fun p hp => (h.each p (List.mem_of_mem_take hp)).1)
  obtain ⟨s1, s2⟩ := set_mid (VB := flatV (ps.drop (n + 1))) (y := y) a b hva hlow.1 hlow.2
  have hsp := parts_split hlt
  have ek : flatK ps = flatK (ps.take n) ++ ps[n].1 ++ flatK (ps.drop (n + 1)) := by
    conv => lhs; rw [hsp]
    rw [flatK_append, flatK_append, flatK_one]
  have ev : flatV ps = flatV (ps.take n) ++ ps[n].2 ++ flatV (ps.drop (n + 1)) := by
    conv => lhs; rw [hsp]
    rw [flatV_append, flatV_append, flatV_one]
  rw [eg, flatK_append, flatK_append, flatV_append, flatV_append, (cut_flat _).1, (cut_flat _).2, ek, ev, s1, s2]
  exact ⟨rfl, rfl⟩
theorem step_ok {ps : List PartM} {x y : ByteArray} (h : PartsOk ps) (h1 : 1 ≤ x.size) (h2 : x.size ≤ 20) (h3 : y.size ≤ 100) : PartsOk (stepP ps x y) := by
  have hpos : 0 < ps.length := List.length_pos_iff.2 h.some
  have hsf := step_flat (y := y) h h1
  have hlt : atTo ps x ps.length < ps.length := by have := atTo_le ps x ps.length; omega
  have hkeys : keysOk (flatK (stepP ps x y)) = true := by rw [hsf.1]; exact setK_ok h.keys h1 h2
  clear hsf
  unfold stepP at *
  generalize atTo ps x ps.length = n at *
  have eg : ps.getD n ([], []) = ps[n] := by simp [hlt]
  rw [eg] at hkeys ⊢
  have hf := h.each _ (List.getElem_mem hlt)
  obtain ⟨a, _, _⟩ := (leaf_form ps[n].1 ps[n].2).1 hf.1
  have g1 : formB (ndP (grownP ps[n] x y)) = true := leaf_set hf.1 h1 h2 h3
  have g2 : sizeN (ndP (grownP ps[n] x y)) ≤ 378 := size_set hf.1 hf.2 h2 h3
  have g3 : (grownP ps[n] x y).1 ≠ [] := fun e => by
    have h4 := setK_length (x := x) a
    have h5 := congrArg List.length e
    have h6 : (setK ps[n].1 x).length = 0 := h5
    rw [h6] at h4
    cases hc : hitB ps[n].1 x with
    | false => rw [hc] at h4; simp at h4
    | true => obtain ⟨hl, _⟩ := hit_at a hc; omega
  refine ⟨hkeys, fun q hq => ?_, ?_, ?_⟩
  · rcases List.mem_append.1 hq with hq | hq
    · rcases List.mem_append.1 hq with hq | hq
      · exact h.each q (List.mem_of_mem_take hq)
      · exact cut_each g1 g2 q hq
    · exact h.each q (List.mem_of_mem_drop hq)
  · intro e
    have h4 : cutP (grownP ps[n] x y) = [] := (List.append_eq_nil_iff.1 (List.append_eq_nil_iff.1 e).1).2
    unfold cutP at h4
    split at h4 <;> cases h4
  · right
    intro q hq
    rcases List.mem_append.1 hq with hq | hq
    · rcases List.mem_append.1 hq with hq | hq
      · rcases h.full with hz | hz
        · rw [hz] at hlt hq
          obtain rfl : n = 0 := by simpa using hlt
          simp at hq
        · exact hz q (List.mem_of_mem_take hq)
      · exact cut_full g1 g3 q hq
    · rcases h.full with hz | hz
      · rw [hz] at hq
        simp at hq
      · exact hz q (List.mem_of_mem_drop hq)
theorem step_length (ps : List PartM) (x y : ByteArray) (h : ps ≠ []) : (stepP ps x y).length ≤ ps.length + 1 := by
  have hpos : 0 < ps.length := List.length_pos_iff.2 h
  have hlt : atTo ps x ps.length < ps.length := by have := atTo_le ps x ps.length; omega
  unfold stepP cutP
  split <;> simp <;> omega
end Go.Proofs.Ytopkkolcimmedaa
