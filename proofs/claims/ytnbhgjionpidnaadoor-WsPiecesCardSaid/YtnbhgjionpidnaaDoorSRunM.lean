/- What a reader comes to, as data. No condition. -/
import Derived.Test.YtnbhgjionpidnaaDoorSFrameN
namespace Go.Proofs.YtnbhgjionpidnaaDoor
open Go.RowKit

/-- What a frame comes to: an item or none, and what has begun (none: the end); or a code. -/
def itemD (kind : Nat) (text : ByteArray) (f : FrM) : Except Nat (Option ItM × Option (Nat × ByteArray)) :=
  if f.op = 8 then (match closedN f.pay with | .error c => .error c | .ok i => .ok (some i, none))
  else if f.op = 9 ∨ f.op = 10 then .ok (some ⟨f.op, f.pay, 0⟩, some (kind, text))
  else if f.fin = false then .ok (none, some (if f.op = 1 ∨ f.op = 2 then f.op else kind, text ++ f.pay))
  else if (if f.op = 1 ∨ f.op = 2 then f.op else kind) = 1 ∧ Lib.validD (text ++ f.pay).data.toList = false then .error 1007
  else .ok (some ⟨if f.op = 1 ∨ f.op = 2 then f.op else kind, text ++ f.pay, 0⟩, some (0, ⟨#[]⟩))
/-- A reader's cells by what has begun. -/
def stC (mk : Bool) (L : Value) (s : Option (Nat × ByteArray)) : Array Value := match s with
  | some (k, t) => rdC mk L k t false
  | none => endC
theorem itemN_eq (mk : Bool) (L : Value) (kind : Nat) (text : ByteArray) (f : FrM) : itemN mk L kind text f = match itemD kind text f with
  | .error c => .error c
  | .ok (i, s) => .ok (i, stC mk L s) := by
  unfold itemN itemD
  by_cases h8 : f.op = 8
  · rw [if_pos h8, if_pos h8]
    cases closedN f.pay <;> rfl
  · rw [if_neg h8, if_neg h8]
    by_cases h9 : f.op = 9 ∨ f.op = 10
    · rw [if_pos h9, if_pos h9]; rfl
    · rw [if_neg h9, if_neg h9]
      by_cases hf : f.fin = false
      · rw [if_pos hf, if_pos hf]; rfl
      · rw [if_neg hf, if_neg hf]
        by_cases hv : (if f.op = 1 ∨ f.op = 2 then f.op else kind) = 1 ∧ Lib.validD (text ++ f.pay).data.toList = false
        · rw [if_pos hv, if_pos hv]
        · rw [if_neg hv, if_neg hv]; rfl
/-- What the bytes come to: the items, and what has begun, with what is left (none: the end). -/
def runN (mk : Bool) : Nat → Nat → ByteArray → List Nat → List ItM × Option (Nat × ByteArray × List Nat)
  | 0, kind, text, l => ([], some (kind, text, l))
  | n + 1, kind, text, l => match frameN mk kind text.size l with
    | .no c => if c = 0 then ([], some (kind, text, l)) else ([⟨0, ⟨#[]⟩, c⟩], none)
    | .ok fm l' => match itemD kind text fm.1 with
      | .error c => ([⟨0, ⟨#[]⟩, c⟩], none)
      | .ok (i, none) => (i.toList, none)
      | .ok (i, some (k, t)) => (i.toList ++ (runN mk n k t l').1, (runN mk n k t l').2)
theorem lngN_len {short k : Nat} {l l2 : List Nat} (h : lngN short l = .ok k l2) : l2.length ≤ l.length := by
  obtain ⟨d, rfl⟩ := lngN_sub h.symm
  rw [List.length_drop]
  omega
/-- A frame takes two bytes or more. -/
theorem frameN_len {mk : Bool} {kind tz : Nat} {l l' : List Nat} {fm : FrM × (Nat → Nat)} (h : frameN mk kind tz l = .ok fm l') : l'.length + 2 ≤ l.length := by
  unfold frameN at h
  split at h
  · cases h
  · split at h
    · cases h
    · split at h
      · cases h
      · rename_i h2 _ _ size l2 hl
        have := lngN_len hl
        rw [List.length_drop] at this
        split at h
        · cases h
        · split at h
          · split at h
            · cases h
            · split at h
              · cases h
              · injection h with _ h
                subst h
                simp only [List.length_drop]
                omega
          · split at h
            · cases h
            · injection h with _ h
              subst h
              simp only [List.length_drop]
              omega
/-- As many rounds as there are bytes are enough. -/
theorem runN_more (mk : Bool) : ∀ (n m kind : Nat) (text : ByteArray) (l : List Nat), l.length < n → l.length < m → runN mk n kind text l = runN mk m kind text l := by
  intro n
  induction n with
  | zero => intro m kind text l h; omega
  | succ n ih =>
    intro m kind text l h1 h2
    obtain ⟨m, rfl⟩ : ∃ k, m = k + 1 := ⟨m - 1, by omega⟩
    unfold runN
    cases hf : frameN mk kind text.size l with
    | no c => rfl
    | ok fm l' =>
      dsimp only
      have := frameN_len hf
      cases hi : itemD kind text fm.1 with
      | error c => rfl
      | ok p =>
        obtain ⟨i, s⟩ := p
        cases s with
        | none => rfl
        | some kt =>
          obtain ⟨k, t⟩ := kt
          dsimp only
          rw [ih m k t l' (by omega) (by omega)]
/-- What has come to, with the bytes behind. -/
theorem lngN_more {short : Nat} {l m : List Nat} : (∀ k l2, lngN short l = .ok k l2 → lngN short (l ++ m) = .ok k (l2 ++ m)) ∧ (∀ c, c ≠ 0 → lngN short l = .no c → lngN short (l ++ m) = .no c) := by
  unfold lngN
  have t2 : ∀ d, d ≤ l.length → (l ++ m).take d = l.take d := fun d hd => List.take_append_of_le_length hd
  have d2 : ∀ d, d ≤ l.length → (l ++ m).drop d = l.drop d ++ m := fun d hd => List.drop_append_of_le_length hd
  by_cases h6 : short = 126
  · simp only [if_pos h6]
    by_cases h2 : l.length < 2
    · simp only [if_pos h2]
      refine ⟨fun k l2 h => (by cases h), fun c hc h => ?_⟩
      injection h with h
      exact absurd h.symm hc
    · have g2 : ¬ (l ++ m).length < 2 := by rw [List.length_append]; omega
      simp only [if_neg h2, if_neg g2, t2 2 (by omega), d2 2 (by omega)]
      by_cases h3 : beN (l.take 2) < 126
      · simp only [if_pos h3]
        exact ⟨fun k l2 h => (by cases h), fun c hc h => h⟩
      · simp only [if_neg h3]
        refine ⟨fun k l2 h => ?_, fun c hc h => (by cases h)⟩
        injection h with ha hb
        rw [ha, hb]
  · simp only [if_neg h6]
    by_cases h7 : short = 127
    · simp only [if_pos h7]
      by_cases h2 : l.length < 8
      · simp only [if_pos h2]
        refine ⟨fun k l2 h => (by cases h), fun c hc h => ?_⟩
        injection h with h
        exact absurd h.symm hc
      · have g2 : ¬ (l ++ m).length < 8 := by rw [List.length_append]; omega
        simp only [if_neg h2, if_neg g2, t2 8 (by omega)]
        exact ⟨fun k l2 h => (by split at h <;> cases h), fun c hc h => h⟩
    · simp only [if_neg h7]
      refine ⟨fun k l2 h => ?_, fun c hc h => (by cases h)⟩
      injection h with ha hb
      rw [ha, hb]
theorem getD_app {l m : List Nat} {i : Nat} (h : i < l.length) : (l ++ m).getD i 0 = l.getD i 0 := by
  rw [List.getD_eq_getElem?_getD, List.getD_eq_getElem?_getD, List.getElem?_append_left h]
theorem xorFrom_mask {m m' : Nat → Nat} (h : ∀ i, i < 4 → m i = m' i) : ∀ (l : List Nat) (i : Nat), xorFrom m i l = xorFrom m' i l
  | [], _ => rfl
  | x :: l, i => by
    show (x ^^^ m (i % 4)) :: xorFrom m (i + 1) l = (x ^^^ m' (i % 4)) :: xorFrom m' (i + 1) l
    rw [h _ (Nat.mod_lt _ (by decide)), xorFrom_mask h l (i + 1)]
theorem xorN_mask {m m' : Nat → Nat} (h : ∀ i, i < 4 → m i = m' i) (s : List Nat) : xorN m s = xorN m' s := xorFrom_mask h s 0
/-- A mask of four bytes is the same whatever comes behind it, as far as it is used. -/
theorem frameN_more {mk : Bool} {kind tz : Nat} {l m : List Nat} : (∀ fm l', frameN mk kind tz l = .ok fm l' → ∃ mm, frameN mk kind tz (l ++ m) = .ok (fm.1, mm) (l' ++ m)) ∧ (∀ c, c ≠ 0 → frameN mk kind tz l = .no c → frameN mk kind tz (l ++ m) = .no c) := by
  unfold frameN
  by_cases h2 : l.length < 2
  · simp only [if_pos h2]
    refine ⟨fun fm l' h => (by cases h), fun c hc h => ?_⟩
    injection h with h
    exact absurd h.symm hc
  · have g2 : ¬ (l ++ m).length < 2 := by rw [List.length_append]; omega
    have dd : (l ++ m).drop 2 = l.drop 2 ++ m := List.drop_append_of_le_length (by omega)
    simp only [if_neg h2, if_neg g2, getD_app (m := m) (show 0 < l.length by omega), getD_app (m := m) (show 1 < l.length by omega), dd]
    split
    · exact ⟨fun fm l' h => (by cases h), fun c hc h => h⟩
    · cases hl : lngN (l.getD 1 0 % 128) (l.drop 2) with
      | no c =>
        refine ⟨fun fm l' h => (by cases h), fun c' hc h => ?_⟩
        injection h with h
        subst h
        rw [lngN_more.2 c hc hl]
      | ok size l2 =>
        rw [lngN_more.1 size l2 hl]
        dsimp only
        split
        · exact ⟨fun fm l' h => (by cases h), fun c hc h => h⟩
        · split
          · by_cases h4 : l2.length < 4
            · simp only [if_pos h4]
              refine ⟨fun fm l' h => (by cases h), fun c hc h => ?_⟩
              injection h with h
              exact absurd h.symm hc
            · have g4 : ¬ (l2 ++ m).length < 4 := by rw [List.length_append]; omega
              have d4 : (l2 ++ m).drop 4 = l2.drop 4 ++ m := List.drop_append_of_le_length (by omega)
              simp only [if_neg h4, if_neg g4, d4]
              by_cases h5 : (l2.drop 4).length < size
              · simp only [if_pos h5]
                refine ⟨fun fm l' h => (by cases h), fun c hc h => ?_⟩
                injection h with h
                exact absurd h.symm hc
              · have g5 : ¬ (l2.drop 4 ++ m).length < size := by rw [List.length_append]; omega
                have t5 : (l2.drop 4 ++ m).take size = (l2.drop 4).take size := List.take_append_of_le_length (by omega)
                have d5 : (l2.drop 4 ++ m).drop size = (l2.drop 4).drop size ++ m := List.drop_append_of_le_length (by omega)
                simp only [if_neg h5, if_neg g5, t5, d5]
                refine ⟨fun fm l' h => ?_, fun c hc h => (by cases h)⟩
                injection h with ha hb
                subst ha
                subst hb
                refine ⟨maskF (l2 ++ m), ?_⟩
                have hx : ∀ s, xorN (maskF (l2 ++ m)) s = xorN (maskF l2) s := xorN_mask (fun i hi => getD_app (l := l2) (m := m) (by omega))
                rw [hx]
          · by_cases h5 : l2.length < size
            · simp only [if_pos h5]
              refine ⟨fun fm l' h => (by cases h), fun c hc h => ?_⟩
              injection h with h
              exact absurd h.symm hc
            · have g5 : ¬ (l2 ++ m).length < size := by rw [List.length_append]; omega
              have t5 : (l2 ++ m).take size = l2.take size := List.take_append_of_le_length (by omega)
              have d5 : (l2 ++ m).drop size = l2.drop size ++ m := List.drop_append_of_le_length (by omega)
              simp only [if_neg h5, if_neg g5, t5, d5]
              refine ⟨fun fm l' h => ?_, fun c hc h => (by cases h)⟩
              injection h with ha hb
              subst ha
              subst hb
              exact ⟨_, rfl⟩
/-- Reading in two parts is reading at once. -/
theorem runN_append (mk : Bool) : ∀ (n kind : Nat) (text : ByteArray) (l m : List Nat), l.length < n → runN mk (n + m.length) kind text (l ++ m) = match (runN mk n kind text l).2 with
    | none => runN mk n kind text l
    | some (k, t, r) => ((runN mk n kind text l).1 ++ (runN mk (r.length + m.length + 1) k t (r ++ m)).1, (runN mk (r.length + m.length + 1) k t (r ++ m)).2) := by
  intro n
  induction n with
  | zero => intro kind text l m h; omega
  | succ n ih =>
    intro kind text l m h
    rw [show n + 1 + m.length = (n + m.length) + 1 by omega]
    have e1 : ∀ k, runN mk (k + 1) kind text l = match frameN mk kind text.size l with
      | .no c => if c = 0 then ([], some (kind, text, l)) else ([⟨0, ⟨#[]⟩, c⟩], none)
      | .ok fm l' => match itemD kind text fm.1 with
        | .error c => ([⟨0, ⟨#[]⟩, c⟩], none)
        | .ok (i, none) => (i.toList, none)
        | .ok (i, some (k2, t)) => (i.toList ++ (runN mk k k2 t l').1, (runN mk k k2 t l').2) := fun k => by rw [runN]
    have e2 : ∀ k, runN mk (k + 1) kind text (l ++ m) = match frameN mk kind text.size (l ++ m) with
      | .no c => if c = 0 then ([], some (kind, text, l ++ m)) else ([⟨0, ⟨#[]⟩, c⟩], none)
      | .ok fm l' => match itemD kind text fm.1 with
        | .error c => ([⟨0, ⟨#[]⟩, c⟩], none)
        | .ok (i, none) => (i.toList, none)
        | .ok (i, some (k2, t)) => (i.toList ++ (runN mk k k2 t l').1, (runN mk k k2 t l').2) := fun k => by rw [runN]
    cases hf : frameN mk kind text.size l with
    | no c =>
      rw [e1, hf]
      dsimp only
      by_cases hc : c = 0
      · rw [if_pos hc]
        dsimp only
        rw [List.nil_append]
        exact runN_more mk _ _ _ _ _ (by rw [List.length_append]; omega) (by rw [List.length_append]; omega)
      · rw [if_neg hc, e2, frameN_more.2 c hc hf]
        dsimp only
        rw [if_neg hc]
    | ok fm l' =>
      obtain ⟨mm, hm⟩ := (frameN_more (m := m)).1 fm l' hf
      have hlen := frameN_len hf
      rw [e1, hf, e2, hm]
      dsimp only
      cases hi : itemD kind text fm.1 with
      | error c => rfl
      | ok p =>
        obtain ⟨i, s⟩ := p
        cases s with
        | none => rfl
        | some kt =>
          obtain ⟨k, t⟩ := kt
          dsimp only
          rw [ih k t l' m (by omega)]
          cases hr : (runN mk n k t l').2 with
          | none => rw [hr]
          | some q =>
            obtain ⟨k2, t2, r⟩ := q
            dsimp only
            rw [List.append_assoc]
end Go.Proofs.YtnbhgjionpidnaaDoor
