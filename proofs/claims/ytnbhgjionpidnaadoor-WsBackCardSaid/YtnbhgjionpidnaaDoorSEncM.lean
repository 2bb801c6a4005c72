/- What was encoded is read back. No condition. -/
import Derived.Test.YtnbhgjionpidnaaDoorSEnc
import Derived.Test.YtnbhgjionpidnaaDoorSBehind
namespace Go.Proofs.YtnbhgjionpidnaaDoor
open Go.RowKit

theorem xorFrom_twice (m : Nat → Nat) : ∀ (l : List Nat) (i : Nat), xorFrom m i (xorFrom m i l) = l
  | [], _ => rfl
  | x :: l, i => by
    show ((x ^^^ m (i % 4)) ^^^ m (i % 4)) :: xorFrom m (i + 1) (xorFrom m (i + 1) l) = x :: l
    rw [Nat.xor_assoc, Nat.xor_self, Nat.xor_zero, xorFrom_twice m l (i + 1)]
theorem xorN_twice (m : Nat → Nat) (l : List Nat) : xorN m (xorN m l) = l := xorFrom_twice m l 0
theorem xorFrom_zero : ∀ (l : List Nat) (i : Nat), xorFrom (fun _ => 0) i l = l
  | [], _ => rfl
  | x :: l, i => by
    show (x ^^^ 0) :: xorFrom (fun _ => 0) (i + 1) l = x :: l
    rw [Nat.xor_zero, xorFrom_zero l (i + 1)]
theorem xorN_zero (l : List Nat) : xorN (fun _ => 0) l = l := xorFrom_zero l 0
theorem txt_octs (s : ByteArray) : txt (octs s) = s := by
  unfold txt octs
  rw [List.map_map]
  have : (UInt8.ofNat ∘ UInt8.toNat) = id := by
    funext b
    simp
  rw [this, List.map_id]
/-- The byte for the length. -/
def shortE (n : Nat) : Nat := if n < 126 then n else 126
theorem headE_eq (fin : Bool) (op : Nat) (msk : Bool) (n : Nat) : headE fin op msk n = (op + (if fin then 128 else 0)) :: ((if msk then 128 else 0) + shortE n) :: (if n < 126 then [] else [n / 256, n % 256]) := by
  unfold headE shortE
  by_cases h : n < 126
  · rw [if_pos h, if_pos h, if_pos h]
  · rw [if_neg h, if_neg h, if_neg h]
theorem lngN_enc (n : Nat) (hn : n < 65536) (l : List Nat) : lngN (shortE n) ((if n < 126 then [] else [n / 256, n % 256]) ++ l) = .ok n l := by
  unfold lngN shortE
  by_cases h : n < 126
  · rw [if_pos h, if_pos h, if_neg (by omega), if_neg (by omega), List.nil_append]
  · rw [if_neg h, if_neg h, if_pos rfl]
    rw [if_neg (by simp)]
    have hb : beN (([n / 256, n % 256] ++ l).take 2) = n := by
      show (0 * 256 + n / 256) * 256 + n % 256 = n
      omega
    rw [hb, if_neg h]
    rfl
/-- A frame that was encoded, behind it whatever bytes. -/
theorem frame_enc (fin : Bool) (op : Nat) (mk : Bool) (p : ByteArray) (M : Nat → Nat) (kind tz : Nat) (rest : List Nat) (hop : op < 16) (hp : p.size ≤ 4096) :
    ∃ mm, frameN mk kind tz (encN ⟨fin, op, mk, p⟩ M ++ rest) = if fitsB kind op fin (shortE p.size) = false then .no 1002 else if op < 8 ∧ 4096 < tz + p.size then .no 1009 else .ok (⟨fin, op, mk, p⟩, mm) rest := by
  obtain ⟨body, hbody⟩ : ∃ x, x = (if mk then [M 0, M 1, M 2, M 3] ++ xorN M (octs p) else octs p) ++ rest := ⟨_, rfl⟩
  obtain ⟨a, ha⟩ : ∃ x, x = op + (if fin then 128 else 0) := ⟨_, rfl⟩
  obtain ⟨b, hb⟩ : ∃ x, x = (if mk then 128 else 0) + shortE p.size := ⟨_, rfl⟩
  have hs : shortE p.size < 127 := by unfold shortE; split <;> omega
  have hl : encN ⟨fin, op, mk, p⟩ M ++ rest = a :: b :: ((if p.size < 126 then [] else [p.size / 256, p.size % 256]) ++ body) := by
    unfold encN
    dsimp only
    rw [headE_eq, ← ha, ← hb, hbody, List.cons_append, List.cons_append, List.cons_append, List.cons_append, List.append_assoc]
  have a1 : a / 16 % 8 = 0 := by rw [ha]; split <;> omega
  have a2 : a % 16 = op := by rw [ha]; split <;> omega
  have a3 : decide (128 ≤ a) = fin := by
    rw [ha]
    cases fin
    · simp; omega
    · simp
  have b1 : decide (128 ≤ b) = mk := by
    rw [hb]
    cases mk
    · simp; omega
    · simp
  have b2 : b % 128 = shortE p.size := by rw [hb]; split <;> omega
  rw [hl]
  unfold frameN
  rw [if_neg (by simp only [List.length_cons]; omega)]
  simp only [List.getD_cons_zero, List.getD_cons_succ, a1, a2, a3, b1, b2, ne_eq, not_true_eq_false, false_or, List.drop_succ_cons, List.drop_zero]
  by_cases hf : fitsB kind op fin (shortE p.size) = false
  · exact ⟨fun _ => 0, by rw [if_pos hf, if_pos hf]⟩
  · simp only [if_neg hf, lngN_enc p.size (by omega)]
    by_cases h9 : op < 8 ∧ 4096 < tz + p.size
    · exact ⟨fun _ => 0, by rw [if_pos h9, if_pos h9]⟩
    · simp only [if_neg h9]
      cases mk with
      | true =>
        rw [if_pos rfl] at hbody ⊢
        have h4 : body.drop 4 = xorN M (octs p) ++ rest := by rw [hbody, List.append_assoc]; rfl
        have hx : (xorN M (octs p)).length = p.size := by rw [xorN_length, octs_length]
        have hl4 : ¬ body.length < 4 := by
          rw [hbody]
          simp only [List.length_append, List.length_cons, List.length_nil]
          omega
        rw [if_neg hl4, h4, if_neg (by rw [List.length_append]; omega)]
        have ht : (xorN M (octs p) ++ rest).take p.size = xorN M (octs p) := by rw [← hx]; exact List.take_left
        have hd : (xorN M (octs p) ++ rest).drop p.size = rest := by rw [← hx]; exact List.drop_left
        rw [ht, hd]
        have hm : xorN (maskF body) (xorN M (octs p)) = octs p := by
          rw [xorN_mask (m' := M) (fun i hi => ?_), xorN_twice]
          rw [hbody]
          rcases i with _ | _ | _ | _ | i
          · rfl
          · rfl
          · rfl
          · rfl
          · omega
        rw [hm, txt_octs]
        exact ⟨_, rfl⟩
      | false =>
        rw [if_neg (by decide)] at hbody ⊢
        have hx : (octs p).length = p.size := octs_length p
        rw [hbody, if_neg (by rw [List.length_append]; omega)]
        have ht : (octs p ++ rest).take p.size = octs p := by rw [← hx]; exact List.take_left
        have hd : (octs p ++ rest).drop p.size = rest := by rw [← hx]; exact List.drop_left
        rw [ht, hd, xorN_zero, txt_octs]
        exact ⟨_, rfl⟩
/-- The mask shows nowhere. -/
theorem runN_enc (fin : Bool) (op : Nat) (mk mk' : Bool) (p : ByteArray) (M M' : Nat → Nat) (hop : op < 16) (hp : p.size ≤ 4096) : (feedN mk st0 (encN ⟨fin, op, mk, p⟩ M)).1 = (feedN mk' st0 (encN ⟨fin, op, mk', p⟩ M')).1 := by
  have nil0 : ∀ (mk : Bool) (k : Nat) (t : ByteArray) (n : Nat), (runN mk n k t []).1 = [] := fun mk k t n => by
    cases n with
    | zero => rfl
    | succ n => rw [runN, show frameN mk k t.size [] = .no 0 from rfl]; rfl
  have one : ∀ (mk : Bool) (M : Nat → Nat), (feedN mk st0 (encN ⟨fin, op, mk, p⟩ M)).1 = if fitsB 0 op fin (shortE p.size) = false then [⟨0, ⟨#[]⟩, 1002⟩] else if op < 8 ∧ 4096 < 0 + p.size then [⟨0, ⟨#[]⟩, 1009⟩] else match itemD 0 ⟨#[]⟩ ⟨fin, op, true, p⟩ with
      | .error c => [⟨0, ⟨#[]⟩, c⟩]
      | .ok (i, _) => i.toList := fun mk M => by
    rw [feedN_0, runN]
    obtain ⟨mm, h⟩ := frame_enc fin op mk p M 0 0 [] hop hp
    rw [List.append_nil] at h
    rw [show (⟨#[]⟩ : ByteArray).size = 0 from rfl, h]
    by_cases hf : fitsB 0 op fin (shortE p.size) = false
    · rw [if_pos hf, if_pos hf]; rfl
    · rw [if_neg hf, if_neg hf]
      by_cases h9 : op < 8 ∧ 4096 < 0 + p.size
      · rw [if_pos h9, if_pos h9]; rfl
      · rw [if_neg h9, if_neg h9]
        dsimp only
        rw [show itemD 0 ⟨#[]⟩ ⟨fin, op, mk, p⟩ = itemD 0 ⟨#[]⟩ ⟨fin, op, true, p⟩ from rfl]
        cases hi : itemD 0 ⟨#[]⟩ ⟨fin, op, true, p⟩ with
        | error c => rfl
        | ok q =>
          obtain ⟨i, s⟩ := q
          cases s with
          | none => rfl
          | some kt =>
            obtain ⟨k, t⟩ := kt
            dsimp only
            rw [nil0, List.append_nil]
  rw [one, one]
theorem encN_length (fin : Bool) (op : Nat) (mk : Bool) (p : ByteArray) (M : Nat → Nat) : (encN ⟨fin, op, mk, p⟩ M).length = (if p.size < 126 then 2 else 4) + (if mk then 4 else 0) + p.size := by
  unfold encN
  dsimp only
  rw [List.length_append, headE_eq]
  have hh : ∀ (a b : Nat), (a :: b :: (if p.size < 126 then ([] : List Nat) else [p.size / 256, p.size % 256])).length = if p.size < 126 then 2 else 4 := by
    intro a b
    split <;> rfl
  rw [hh]
  cases mk
  · rw [if_neg (show ¬ (false = true) by decide), if_neg (show ¬ (false = true) by decide), octs_length, Nat.add_zero]
  · rw [if_pos rfl, if_pos rfl, List.length_append, xorN_length, octs_length, Nat.add_assoc]
    rfl
theorem encN_lt (fin : Bool) (op : Nat) (mk : Bool) (p : ByteArray) (M : Nat → Nat) (hop : op < 16) (hp : p.size ≤ 4096) (hM : ∀ i, i < 4 → M i < 256) : ∀ x ∈ encN ⟨fin, op, mk, p⟩ M, x < 256 := by
  intro x hx
  unfold encN at hx
  dsimp only at hx
  have hs : shortE p.size < 127 := by unfold shortE; split <;> omega
  rcases List.mem_append.1 hx with hx | hx
  · rw [headE_eq] at hx
    rcases List.mem_cons.1 hx with rfl | hx
    · split <;> omega
    · rcases List.mem_cons.1 hx with rfl | hx
      · split <;> omega
      · split at hx
        · cases hx
        · rcases List.mem_cons.1 hx with rfl | hx
          · omega
          · rcases List.mem_cons.1 hx with rfl | hx
            · omega
            · cases hx
  · split at hx
    · rcases List.mem_append.1 hx with hx | hx
      · simp only [List.mem_cons, List.not_mem_nil, or_false] at hx
        rcases hx with rfl | rfl | rfl | rfl
        · exact hM 0 (by decide)
        · exact hM 1 (by decide)
        · exact hM 2 (by decide)
        · exact hM 3 (by decide)
      · exact xorFrom_lt hM 0 _ (octs_lt p) x hx
    · exact octs_lt p x hx
end Go.Proofs.YtnbhgjionpidnaaDoor
