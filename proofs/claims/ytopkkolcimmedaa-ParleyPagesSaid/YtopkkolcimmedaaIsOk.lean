/- Whether a row of texts holds one that is too long, whether a row of numbers holds one that is no block's. Condition: the row lies in memory. -/
import Derived.Test.YtopkkolcimmedaaProg
import Derived.Test.YtopkkolcimmedaaNdA
import Derived.WalkLawsBesides
import Derived.BigQuiet
import Derived.Deep.QuietTactic
namespace Go.Proofs.Ytopkkolcimmedaa
open Go.RowKit

theorem isLong_yes (s : ByteArray) (w : World) (h : 100 < s.size) (hz : s.size ≤ 140737488355328) : Calls Try.prog 32 #[.string s] w fun e w' => e = .returned (.bool true) ∧ w = w' := by
  have h' : decide ((100 : Int) < (s.size : Int)) = true := by simp; omega
  go_enter Try.func32, Try.ntmps32
  go_wp2
  go_ret
  exact ⟨by rw [← h']; rfl, rfl⟩
theorem isLong_no (s : ByteArray) (w : World) (h : ¬ 100 < s.size) (hz : s.size ≤ 140737488355328) : Calls Try.prog 32 #[.string s] w fun e w' => e = .returned (.bool false) ∧ w = w' := by
  have h' : decide ((100 : Int) < (s.size : Int)) = false := by simp; omega
  go_enter Try.func32, Try.ntmps32
  go_wp2
  go_ret
  exact ⟨by rw [← h']; rfl, rfl⟩
theorem isNoBlock_yes (x : Int) (w : World) (h : x < 0 ∨ 2047 < x) : Calls Try.prog 34 #[.int .i64 x] w fun e w' => e = .returned (.bool true) ∧ w = w' := by
  rcases h with h | h
  · go_enter Try.func34, Try.ntmps34
    go_wp2
    go_ret
    exact ⟨rfl, rfl⟩
  · have h0 : ¬ x < 0 := by omega
    have h1 : decide ((2048 : Int) ≤ x) = true := by simp; omega
    go_enter Try.func34, Try.ntmps34
    go_wp2
    go_ret
    exact ⟨rfl, rfl⟩
theorem isNoBlock_no (x : Int) (w : World) (h0 : ¬ x < 0) (h2 : ¬ 2047 < x) : Calls Try.prog 34 #[.int .i64 x] w fun e w' => e = .returned (.bool false) ∧ w = w' := by
  have h1 : decide ((2048 : Int) ≤ x) = false := by simp; omega
  go_enter Try.func34, Try.ntmps34
  go_wp2
  go_ret
  exact ⟨rfl, rfl⟩
set_option maxRecDepth 100000 in
theorem index_str (l : List ByteArray) (A : Option Addr) (n c : Nat) (hn : n = l.length) (hb : n ≤ 8796093022208) (hz : ∀ s ∈ l, s.size ≤ 140737488355328) (w : World) (hA : Seg w A (strV l)) :
    Calls Try.prog 50 #[.slice A n c, .func (.func 32) #[] #[]] w fun e w' => (∃ i : Int, e = .returned (.int .i64 i) ∧ decide (0 ≤ i) = !l.all valOk) ∧ w = w' := by
  have HA := Lib.hid hA
  have HN := Lib.hid hn
  have HZ := Lib.hid hz
  clear hz
  clear hA hn
  go_enter Try.func50, Try.ntmps50
  go_wp2
  go_loop [8] (fun i => ∃ m : Nat, m ≤ n ∧ i = .int .i64 m ∧ Hid (∀ j (hj : j < l.length), j < m → valOk l[j] = true)) (fun i => n - (intOf i).toNat)
  case atStart => exact ⟨0, by omega, rfl, Lib.hid (fun j _ hj => by omega)⟩
  case round =>
    obtain ⟨m, hm, rfl, hv⟩ := hrel
    by_cases hlt : m < n
    · have hml : m < l.length := by have := HN.out; omega
      obtain ⟨b, off, rfl, hbl, hc⟩ := HA.out.str (k := m) hml
      have hz := HZ.out _ (List.getElem_mem hml)
      by_cases h1 : 100 < (l[m]).size
      · have HF := Lib.hid (all_bad (p := valOk) hml (by unfold valOk; exact decide_eq_false (by omega)))
        generalize l[m] = s at *
        have C1 := Lib.hid (isLong_yes s w h1 hz)
        clear h1
        go_wp2_with (refine (C1.out).mono ?_; rintro e w' ⟨rfl, rfl⟩)
        go_ret
        exact ⟨⟨_, rfl, by rw [HF.out]; simp⟩, rfl⟩
      · have HV := Lib.hid (show ∀ j (hj : j < l.length), j < m + 1 → valOk l[j] = true by
          intro j hj hj2
          by_cases e : j = m
          · subst e
            unfold valOk; exact decide_eq_true (by omega)
          · exact hv.out j hj (by omega))
        clear hv
        generalize l[m] = s at *
        have C1 := Lib.hid (isLong_no s w h1 hz)
        clear h1
        go_wp2_with (refine (C1.out).mono ?_; rintro e w' ⟨rfl, rfl⟩)
        go_round
        case rel => exact ⟨m + 1, by omega, by go_num, HV⟩
        case measure => simp [intOf]; omega
    · have HF := Lib.hid (all_of (p := valOk) (l := l) (fun j hj => hv.out j hj (by have := HN.out; omega)))
      clear hv
      go_wp2
      go_ret
      exact ⟨⟨_, rfl, by rw [HF.out]; rfl⟩, rfl⟩
theorem contains_str (l : List ByteArray) (A : Option Addr) (n c : Nat) (hn : n = l.length) (hb : n ≤ 8796093022208) (hz : ∀ s ∈ l, s.size ≤ 140737488355328) (w : World) (hA : Seg w A (strV l)) :
    Calls Try.prog 31 #[.slice A n c, .func (.func 32) #[] #[]] w fun e w' => e = .returned (.bool !l.all valOk) ∧ w = w' := by
  have C1 := Lib.hid (index_str l A n c hn hb hz w hA)
  clear hn hA
  go_enter Try.func31, Try.ntmps31
  go_wp2_with (refine (C1.out).mono ?_; rintro e w' ⟨⟨i, rfl, hi⟩, rfl⟩; have HI := Lib.hid hi; clear hi)
  go_ret
  exact ⟨by rw [← HI.out]; rfl, rfl⟩
set_option maxRecDepth 100000 in
theorem index_int (l : List Int) (A : Option Addr) (n c : Nat) (hn : n = l.length) (hb : n ≤ 17592186044416) (w : World) (hA : Seg w A (intV l)) :
    Calls Try.prog 51 #[.slice A n c, .func (.func 34) #[] #[]] w fun e w' => (∃ i : Int, e = .returned (.int .i64 i) ∧ decide (0 ≤ i) = !l.all kidOk) ∧ w = w' := by
  have HA := Lib.hid hA
  have HN := Lib.hid hn
  clear hA hn
  go_enter Try.func51, Try.ntmps51
  go_wp2
  go_loop [8] (fun i => ∃ m : Nat, m ≤ n ∧ i = .int .i64 m ∧ Hid (∀ j (hj : j < l.length), j < m → kidOk l[j] = true)) (fun i => n - (intOf i).toNat)
  case atStart => exact ⟨0, by omega, rfl, Lib.hid (fun j _ hj => by omega)⟩
  case round =>
    obtain ⟨m, hm, rfl, hv⟩ := hrel
    by_cases hlt : m < n
    · have hml : m < l.length := by have := HN.out; omega
      obtain ⟨b, off, rfl, hbl, hc⟩ := HA.out.i64 (k := m) hml
      by_cases h1 : l[m] < 0 ∨ 2047 < l[m]
      · have HF := Lib.hid (all_bad (p := kidOk) hml (by unfold kidOk; rcases h1 with h1 | h1 <;> simp <;> omega))
        generalize l[m] = s at *
        have C1 := Lib.hid (isNoBlock_yes s w h1)
        clear h1
        go_wp2_with (refine (C1.out).mono ?_; rintro e w' ⟨rfl, rfl⟩)
        go_ret
        exact ⟨⟨_, rfl, by rw [HF.out]; simp⟩, rfl⟩
      · have HV := Lib.hid (show ∀ j (hj : j < l.length), j < m + 1 → kidOk l[j] = true by
          intro j hj hj2
          by_cases e : j = m
          · subst e
            unfold kidOk; rw [decide_eq_true (by omega), decide_eq_true (by omega)]; rfl
          · exact hv.out j hj (by omega))
        clear hv
        generalize l[m] = s at *
        have C1 := Lib.hid (isNoBlock_no s w (fun h => h1 (Or.inl h)) (fun h => h1 (Or.inr h)))
        clear h1
        go_wp2_with (refine (C1.out).mono ?_; rintro e w' ⟨rfl, rfl⟩)
        go_round
        case rel => exact ⟨m + 1, by omega, by go_num, HV⟩
        case measure => simp [intOf]; omega
    · have HF := Lib.hid (all_of (p := kidOk) (l := l) (fun j hj => hv.out j hj (by have := HN.out; omega)))
      clear hv
      go_wp2
      go_ret
      exact ⟨⟨_, rfl, by rw [HF.out]; rfl⟩, rfl⟩
theorem contains_int (l : List Int) (A : Option Addr) (n c : Nat) (hn : n = l.length) (hb : n ≤ 17592186044416) (w : World) (hA : Seg w A (intV l)) :
    Calls Try.prog 33 #[.slice A n c, .func (.func 34) #[] #[]] w fun e w' => e = .returned (.bool !l.all kidOk) ∧ w = w' := by
  have C1 := Lib.hid (index_int l A n c hn hb w hA)
  clear hn hA
  go_enter Try.func33, Try.ntmps33
  go_wp2_with (refine (C1.out).mono ?_; rintro e w' ⟨⟨i, rfl, hi⟩, rfl⟩; have HI := Lib.hid hi; clear hi)
  go_ret
  exact ⟨by rw [← HI.out]; rfl, rfl⟩
end Go.Proofs.Ytopkkolcimmedaa
