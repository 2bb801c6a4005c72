/- What a frame that was read is, and what the items are. No condition. -/
import Derived.Test.YtnbhgjionpidnaaDoorSRunM
namespace Go.Proofs.YtnbhgjionpidnaaDoor
open Go.RowKit

theorem txt_len (l : List Nat) : (txt l).size = l.length := by
  show (List.map UInt8.ofNat l).toArray.size = l.length
  simp
theorem frameN_ok {mk : Bool} {kind tz : Nat} {l l' : List Nat} {fm : FrM × (Nat → Nat)} (h : frameN mk kind tz l = .ok fm l') :
    ((fm.1.op = 0 ∧ kind ≠ 0) ∨ ((fm.1.op = 1 ∨ fm.1.op = 2) ∧ kind = 0) ∨ fm.1.op = 8 ∨ fm.1.op = 9 ∨ fm.1.op = 10) ∧ (fm.1.op < 8 → tz + fm.1.pay.size ≤ 4096) ∧ fm.1.pay.size ≤ l.length ∧ ∃ d, l' = l.drop d := by
  unfold frameN at h
  split at h
  · cases h
  · split at h
    · cases h
    · rename_i hno
      have hfit : fitsB kind (l.getD 0 0 % 16) (decide (128 ≤ l.getD 0 0)) (l.getD 1 0 % 128) = true := by
        cases hb : fitsB kind (l.getD 0 0 % 16) (decide (128 ≤ l.getD 0 0)) (l.getD 1 0 % 128) with
        | true => rfl
        | false => exact absurd (Or.inr (Or.inr hb)) hno
      have hop : ((l.getD 0 0 % 16 = 0 ∧ kind ≠ 0) ∨ ((l.getD 0 0 % 16 = 1 ∨ l.getD 0 0 % 16 = 2) ∧ kind = 0) ∨ l.getD 0 0 % 16 = 8 ∨ l.getD 0 0 % 16 = 9 ∨ l.getD 0 0 % 16 = 10) := by
        unfold fitsB at hfit
        split at hfit
        · rename_i h0
          exact Or.inl ⟨h0, by simpa using hfit⟩
        · split at hfit
          · rename_i h0
            exact Or.inr (Or.inl ⟨h0, by simpa using hfit⟩)
          · split at hfit
            · rename_i h0
              exact Or.inr (Or.inr h0)
            · cases hfit
      split at h
      · cases h
      · rename_i _ _ size l2 hl
        obtain ⟨d, hd⟩ := lngN_sub hl.symm
        have hlen := lngN_len hl
        rw [List.length_drop] at hlen
        split at h
        · cases h
        · rename_i h96
          split at h
          · split at h
            · cases h
            · split at h
              · cases h
              · rename_i hsz
                injection h with ha hb
                subst ha
                subst hb
                have hs : (txt (xorN (maskF l2) ((l2.drop 4).take size))).size = size := by
                  rw [txt_len, xorN_length, List.length_take]; omega
                refine ⟨hop, fun h8 => ?_, ?_, 2 + d + 4 + size, ?_⟩
                · show tz + (txt _).size ≤ 4096
                  rw [hs]; dsimp only at h8; omega
                · show (txt _).size ≤ _
                  rw [hs]
                  rw [List.length_drop] at hsz
                  omega
                · rw [hd]
                  simp only [List.drop_drop]
          · split at h
            · cases h
            · rename_i hsz
              injection h with ha hb
              subst ha
              subst hb
              have hs : (txt (xorN (fun _ => 0) (l2.take size))).size = size := by
                rw [txt_len, xorN_length, List.length_take]; omega
              refine ⟨hop, fun h8 => ?_, ?_, 2 + d + size, ?_⟩
              · show tz + (txt _).size ≤ 4096
                rw [hs]; dsimp only at h8; omega
              · show (txt _).size ≤ _
                rw [hs]
                omega
              · rw [hd]
                simp only [List.drop_drop]
theorem size_app (a b : ByteArray) : (a ++ b).size = a.size + b.size := ByteArray.size_append
/-- What has begun behind a frame. -/
theorem itemD_st {kind k : Nat} {text t : ByteArray} {f : FrM} {i : Option ItM} (hk : kind ≤ 2) (ht : text.size ≤ 4096) (h : itemD kind text f = .ok (i, some (k, t))) (hz : f.op < 8 → text.size + f.pay.size ≤ 4096) (hop : f.op = 0 ∨ f.op = 1 ∨ f.op = 2 ∨ f.op = 8 ∨ f.op = 9 ∨ f.op = 10) : k ≤ 2 ∧ t.size ≤ 4096 := by
  unfold itemD at h
  obtain ⟨K, hK⟩ : ∃ K, K = if f.op = 1 ∨ f.op = 2 then f.op else kind := ⟨_, rfl⟩
  have hK2 : K ≤ 2 := by rw [hK]; split <;> omega
  rw [← hK] at h
  by_cases h8 : f.op = 8
  · rw [if_pos h8] at h
    cases hc : closedN f.pay <;> rw [hc] at h <;> cases h
  · rw [if_neg h8] at h
    by_cases h9 : f.op = 9 ∨ f.op = 10
    · rw [if_pos h9] at h
      cases h
      exact ⟨hk, ht⟩
    · rw [if_neg h9] at h
      by_cases hf : f.fin = false
      · rw [if_pos hf] at h
        cases h
        exact ⟨hK2, by rw [size_app]; exact hz (by omega)⟩
      · rw [if_neg hf] at h
        by_cases hv : K = 1 ∧ Lib.validD (text ++ f.pay).data.toList = false
        · rw [if_pos hv] at h; cases h
        · rw [if_neg hv] at h
          cases h
          exact ⟨by omega, by decide⟩
/-- Only an end has kind 0 or 8. -/
theorem itemD_mid {kind k : Nat} {text t : ByteArray} {f : FrM} {i : ItM} (h : itemD kind text f = .ok (some i, some (k, t))) (hop : (f.op = 0 ∧ kind ≠ 0) ∨ ((f.op = 1 ∨ f.op = 2) ∧ kind = 0) ∨ f.op = 8 ∨ f.op = 9 ∨ f.op = 10) (hk : kind ≤ 2) : i.kind ≠ 0 ∧ i.kind ≠ 8 := by
  unfold itemD at h
  obtain ⟨K, hK⟩ : ∃ K, K = if f.op = 1 ∨ f.op = 2 then f.op else kind := ⟨_, rfl⟩
  rw [← hK] at h
  by_cases h8 : f.op = 8
  · rw [if_pos h8] at h
    cases hc : closedN f.pay <;> rw [hc] at h <;> cases h
  · rw [if_neg h8] at h
    by_cases h9 : f.op = 9 ∨ f.op = 10
    · rw [if_pos h9] at h
      cases h
      dsimp only
      omega
    · rw [if_neg h9] at h
      by_cases hf : f.fin = false
      · rw [if_pos hf] at h
        cases h
      · rw [if_neg hf] at h
        by_cases hv : K = 1 ∧ Lib.validD (text ++ f.pay).data.toList = false
        · rw [if_pos hv] at h; cases h
        · rw [if_neg hv] at h
          cases h
          dsimp only
          have : K = f.op ∧ (f.op = 1 ∨ f.op = 2) ∨ K = kind ∧ f.op = 0 := by
            rw [hK]
            split <;> omega
          omega
/-- An item of kind 0 or 8 is the last one. -/
theorem runN_last (mk : Bool) : ∀ (n kind : Nat) (text : ByteArray) (l : List Nat), kind ≤ 2 → text.size ≤ 4096 → ∀ (j : Nat) (it : ItM), (runN mk n kind text l).1[j]? = some it → (it.kind = 0 ∨ it.kind = 8) → j + 1 = (runN mk n kind text l).1.length := by
  intro n
  induction n with
  | zero => intro kind text l _ _ j it h; simp [runN] at h
  | succ n ih =>
    intro kind text l hk ht j it
    rw [runN]
    cases hf : frameN mk kind text.size l with
    | no c =>
      dsimp only
      split
      · intro h; simp at h
      · intro h _
        cases j with
        | zero => rfl
        | succ j => simp at h
    | ok fm l' =>
      dsimp only
      obtain ⟨h1, h2, h3, _⟩ := frameN_ok hf
      cases hi : itemD kind text fm.1 with
      | error c =>
        intro h _
        cases j with
        | zero => rfl
        | succ j => simp at h
      | ok p =>
        obtain ⟨i, s⟩ := p
        cases s with
        | none =>
          intro h _
          cases i with
          | none => simp at h
          | some i =>
            cases j with
            | zero => rfl
            | succ j => simp at h
        | some kt =>
          obtain ⟨k, t⟩ := kt
          dsimp only
          obtain ⟨hk2, ht2⟩ := itemD_st hk ht hi h2 (by omega)
          cases i with
          | none =>
            rw [show (none : Option ItM).toList = [] from rfl, List.nil_append]
            exact ih k t l' hk2 ht2 j it
          | some i =>
            rw [show (some i : Option ItM).toList = [i] from rfl]
            intro h hb
            cases j with
            | zero =>
              have : i = it := by simpa using h
              subst this
              have := itemD_mid hi h1 hk
              omega
            | succ j =>
              have := ih k t l' hk2 ht2 j it (by simpa using h) hb
              simp only [List.singleton_append, List.length_cons]
              omega
/-- What has begun: a kind of at most 2, few letters, bytes out of those that came. -/
theorem runN_st (mk : Bool) : ∀ (n kind : Nat) (text : ByteArray) (l : List Nat), kind ≤ 2 → text.size ≤ 4096 → ∀ k t r, (runN mk n kind text l).2 = some (k, t, r) → k ≤ 2 ∧ t.size ≤ 4096 ∧ ∃ d, r = l.drop d := by
  intro n
  induction n with
  | zero =>
    intro kind text l hk ht k t r h
    simp only [runN, Option.some.injEq, Prod.mk.injEq] at h
    obtain ⟨rfl, rfl, rfl⟩ := h
    exact ⟨hk, ht, 0, rfl⟩
  | succ n ih =>
    intro kind text l hk ht k t r
    rw [runN]
    cases hf : frameN mk kind text.size l with
    | no c =>
      dsimp only
      split
      · intro h
        simp only [Option.some.injEq, Prod.mk.injEq] at h
        obtain ⟨rfl, rfl, rfl⟩ := h
        exact ⟨hk, ht, 0, rfl⟩
      · intro h; cases h
    | ok fm l' =>
      dsimp only
      obtain ⟨h1, h2, h3, d, hd⟩ := frameN_ok hf
      cases hi : itemD kind text fm.1 with
      | error c => intro h; cases h
      | ok p =>
        obtain ⟨i, s⟩ := p
        cases s with
        | none => intro h; cases h
        | some kt =>
          obtain ⟨k1, t1⟩ := kt
          dsimp only
          obtain ⟨hk2, ht2⟩ := itemD_st hk ht hi h2 (by omega)
          intro h
          obtain ⟨a, b, d2, hd2⟩ := ih k1 t1 l' hk2 ht2 k t r h
          exact ⟨a, b, d + d2, by rw [hd2, hd, List.drop_drop]⟩
/-- How many items, and how great: each is out of the bytes. -/
theorem runN_count (mk : Bool) : ∀ (n kind : Nat) (text : ByteArray) (l : List Nat), (runN mk n kind text l).1.length ≤ n := by
  intro n
  induction n with
  | zero => intro kind text l; simp [runN]
  | succ n ih =>
    intro kind text l
    rw [runN]
    cases hf : frameN mk kind text.size l with
    | no c => dsimp only; split <;> simp
    | ok fm l' =>
      dsimp only
      cases hi : itemD kind text fm.1 with
      | error c => simp
      | ok p =>
        obtain ⟨i, s⟩ := p
        cases s with
        | none => cases i <;> simp
        | some kt =>
          obtain ⟨k1, t1⟩ := kt
          dsimp only
          have := ih k1 t1 l'
          cases i <;> simp <;> omega
end Go.Proofs.YtnbhgjionpidnaaDoor
