/- When a reader is dead, by what it told. No condition. -/
import Derived.Test.YtnbhgjionpidnaaDoorSParseM
namespace Go.Proofs.YtnbhgjionpidnaaDoor
open Go.RowKit

theorem itemD_end {kind : Nat} {text : ByteArray} {f : FrM} {i : Option ItM} (h : itemD kind text f = .ok (i, none)) : ∃ it, i = some it ∧ it.kind = 8 := by
  unfold itemD at h
  by_cases h8 : f.op = 8
  · rw [if_pos h8] at h
    unfold closedN at h
    split at h
    · cases h
    · rename_i c hc
      injection h with h
      injection h with h1 _
      subst h1
      refine ⟨_, rfl, ?_⟩
      split at hc
      · injection hc with hc; rw [← hc]
      · split at hc
        · cases hc
        · split at hc
          · cases hc
          · split at hc
            · cases hc
            · injection hc with hc; rw [← hc]
  · rw [if_neg h8] at h
    obtain ⟨K, hK⟩ : ∃ K, K = if f.op = 1 ∨ f.op = 2 then f.op else kind := ⟨_, rfl⟩
    rw [← hK] at h
    by_cases h9 : f.op = 9 ∨ f.op = 10
    · rw [if_pos h9] at h; cases h
    · rw [if_neg h9] at h
      by_cases hf : f.fin = false
      · rw [if_pos hf] at h; cases h
      · rw [if_neg hf] at h
        by_cases hv : K = 1 ∧ Lib.validD (text ++ f.pay).data.toList = false
        · rw [if_pos hv] at h; cases h
        · rw [if_neg hv] at h; cases h
/-- Is the last of what was told an end? -/
def deadB (l : List ItM) : Bool := match l.getLast? with
  | some it => decide (it.kind = 0 ∨ it.kind = 8)
  | none => false
theorem runN_dead (mk : Bool) : ∀ (n kind : Nat) (text : ByteArray) (l : List Nat), kind ≤ 2 → text.size ≤ 4096 → (runN mk n kind text l).2.isNone = deadB (runN mk n kind text l).1 := by
  intro n
  induction n with
  | zero => intro kind text l _ _; rfl
  | succ n ih =>
    intro kind text l hk ht
    rw [runN]
    cases hf : frameN mk kind text.size l with
    | no c =>
      dsimp only
      split <;> rfl
    | ok fm l' =>
      dsimp only
      obtain ⟨h1, h2, h3, _⟩ := frameN_ok hf
      cases hi : itemD kind text fm.1 with
      | error c => rfl
      | ok p =>
        obtain ⟨i, s⟩ := p
        cases s with
        | none =>
          obtain ⟨it, rfl, h8⟩ := itemD_end hi
          show true = deadB [it]
          unfold deadB
          simp [h8]
        | some kt =>
          obtain ⟨k, t⟩ := kt
          dsimp only
          obtain ⟨hk2, ht2⟩ := itemD_st hk ht hi h2 (by omega)
          rw [ih k t l' hk2 ht2]
          cases i with
          | none => rfl
          | some i =>
            obtain ⟨m1, m2⟩ := itemD_mid hi h1 hk
            rw [show (some i : Option ItM).toList = [i] from rfl]
            unfold deadB
            cases hr : (runN mk n k t l').1 with
            | nil => simp [m1, m2]
            | cons x r => simp [List.getLast?_cons_cons]
theorem feedN_dead (mk : Bool) (l : List Nat) : (feedN mk st0 l).2.isNone = deadB (feedN mk st0 l).1 := by
  rw [feedN_0]
  exact runN_dead mk _ 0 ⟨#[]⟩ l (by decide) (by decide)
theorem deadB_at {l : List ItM} {n : Nat} (h : n + 1 = l.length) : deadB l = decide ((l[n]'(by omega)).kind = 0 ∨ (l[n]'(by omega)).kind = 8) := by
  unfold deadB
  rw [List.getLast?_eq_getElem?, show l.length - 1 = n by omega, List.getElem?_eq_getElem (by omega)]
theorem rds_cell {B gr : Nat} {mk : Bool} {st : Option (Nat × ByteArray × List Nat)} {w : World} (h : RdS B gr mk st w) : w.cell? ⟨gr, 4, none⟩ = some (.bool st.isNone) := by
  cases st with
  | none => exact Bk.cell (show Bk w gr 59 endC from h) 4
  | some q =>
    obtain ⟨k, t, l⟩ := q
    obtain ⟨A, c, h1, _⟩ := (show RdL B gr mk k t l w from h)
    exact h1.cell 4
theorem dead_cell (gr : Nat) (d : Bool) (w : World) (y : w.cell? ⟨gr, 4, none⟩ = some (.bool d)) :
    Calls Tryd.prog 22 #[.pointer (some ⟨gr, 0, none⟩)] w fun e w' => e = .returned (.bool d) ∧ w' = w := by
  go_enter Tryd.func22, Tryd.ntmps22
  go_wp2_with fail
  go_ret
  exact ⟨rfl, rfl⟩
theorem rds_kept {B gr : Nat} {mk : Bool} {st : Option (Nat × ByteArray × List Nat)} {w w' : World} (h : RdS B gr mk st w) (hb : Below w.heap.size w w') : RdS B gr mk st w' := by
  cases st with
  | none => exact Bk.bel (show Bk w gr 59 endC from h) hb
  | some q =>
    obtain ⟨k, t, l⟩ := q
    obtain ⟨A, c, h1, h2, h3, h4⟩ := (show RdL B gr mk k t l w from h)
    exact ⟨A, c, h1.bel hb, h2, h3.bel hb, h4⟩
end Go.Proofs.YtnbhgjionpidnaaDoor
