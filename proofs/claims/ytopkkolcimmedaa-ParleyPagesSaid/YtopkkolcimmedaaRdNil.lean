/- Whether noughts alone are left. Condition: the bytes lie in memory. -/
import Derived.Test.YtopkkolcimmedaaRdBranch
import Derived.Test.YtopkkolcimmedaaIsOk
namespace Go.Proofs.Ytopkkolcimmedaa
open Go.RowKit

theorem isNoNought_any (x : Nat) (hx : x < 256) (w : World) : Calls Try.prog 49 #[.int .u8 (x : Int)] w fun e w' => e = .returned (.bool (!(x == 0))) ∧ w = w' := by
  by_cases h : x = 0
  · subst h
    go_enter Try.func49, Try.ntmps49
    go_wp2
    go_ret
    exact ⟨rfl, rfl⟩
  · have h1 : ((x : Int) != 0) = true := by rw [bne_iff_ne]; omega
    have h2 : (!(x == 0)) = true := by simp [h]
    rw [h2]
    clear h2
    go_enter Try.func49, Try.ntmps49
    go_wp2
    go_ret
    exact ⟨rfl, rfl⟩
set_option maxRecDepth 100000 in
theorem index_nil (l : List Nat) (A : Option Addr) (n c : Nat) (hn : n = l.length) (hb : n ≤ 17592186044416) (hl : ∀ x ∈ l, x < 256) (w : World) (hA : Seg w A (u8s l)) :
    Calls Try.prog 62 #[.slice A n c, .func (.func 49) #[] #[]] w fun e w' => (∃ i : Int, e = .returned (.int .i64 i) ∧ decide (0 ≤ i) = !nilB l) ∧ w = w' := by
  have HA := Lib.hid hA
  have HN := Lib.hid hn
  have HL := Lib.hid hl
  clear hA hn hl
  go_enter Try.func62, Try.ntmps62
  go_wp2
  go_loop [8] (fun i => ∃ m : Nat, m ≤ n ∧ i = .int .i64 m ∧ Hid (∀ j (hj : j < l.length), j < m → (l[j] == 0) = true)) (fun i => n - (intOf i).toNat)
  case atStart => exact ⟨0, by omega, rfl, Lib.hid (fun j _ hj => by omega)⟩
  case round =>
    obtain ⟨m, hm, rfl, hv⟩ := hrel
    by_cases hlt : m < n
    · have hml : m < l.length := by have := HN.out; omega
      obtain ⟨b, off, rfl, hbl, _, hc⟩ := HA.out.pick (k := m) (by rw [u8s_length]; exact hml)
      rw [u8s_get l m hml] at hc
      have hx := HL.out _ (List.getElem_mem hml)
      by_cases h1 : l[m] = 0
      · have HV := Lib.hid (show ∀ j (hj : j < l.length), j < m + 1 → (l[j] == 0) = true by
          intro j hj hj2
          by_cases e : j = m
          · subst e
            simp [h1]
          · exact hv.out j hj (by omega))
        clear hv
        have C1 := isNoNought_any (l[m]) hx w
        rw [show (!(l[m] == 0)) = false by simp [h1]] at C1
        have C1 := Lib.hid C1
        clear h1
        generalize l[m] = s at *
        go_wp2_with (refine (C1.out).mono ?_; rintro e w' ⟨rfl, rfl⟩)
        go_round
        case rel => exact ⟨m + 1, by omega, by go_num, HV⟩
        case measure => simp [intOf]; omega
      · have HF := Lib.hid (show nilB l = false from all_bad (p := fun x => x == 0) hml (by simp [h1]))
        have C1 := isNoNought_any (l[m]) hx w
        rw [show (!(l[m] == 0)) = true by simp [h1]] at C1
        have C1 := Lib.hid C1
        clear h1
        generalize l[m] = s at *
        go_wp2_with (refine (C1.out).mono ?_; rintro e w' ⟨rfl, rfl⟩)
        go_ret
        exact ⟨⟨_, rfl, by rw [HF.out]; simp⟩, rfl⟩
    · have HF := Lib.hid (show nilB l = true from all_of (p := fun x => x == 0) (l := l) (fun j hj => hv.out j hj (by have := HN.out; omega)))
      clear hv
      go_wp2
      go_ret
      exact ⟨⟨_, rfl, by rw [HF.out]; rfl⟩, rfl⟩
theorem contains_nil (l : List Nat) (A : Option Addr) (n c : Nat) (hn : n = l.length) (hb : n ≤ 17592186044416) (hl : ∀ x ∈ l, x < 256) (w : World) (hA : Seg w A (u8s l)) :
    Calls Try.prog 48 #[.slice A n c, .func (.func 49) #[] #[]] w fun e w' => e = .returned (.bool !nilB l) ∧ w = w' := by
  have C1 := Lib.hid (index_nil l A n c hn hb hl w hA)
  clear hn hA
  go_enter Try.func48, Try.ntmps48
  go_wp2_with (refine (C1.out).mono ?_; rintro e w' ⟨⟨i, rfl, hi⟩, rfl⟩; have HI := Lib.hid hi; clear hi)
  go_ret
  exact ⟨by rw [← HI.out]; rfl, rfl⟩
end Go.Proofs.Ytopkkolcimmedaa
