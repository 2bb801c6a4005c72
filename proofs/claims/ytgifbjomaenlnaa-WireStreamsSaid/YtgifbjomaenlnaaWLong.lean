/- Whether a row of entries holds one whose text is too long; what Check says of a message. Condition: the entries lie in memory. -/
import Derived.Test.YtgifbjomaenlnaaWM
import Derived.WalkLawsBesides
import Derived.BigQuiet
import Derived.Deep.QuietTactic
namespace Go.Proofs.Ytgifbjomaenlnaa
open Go.RowKit

theorem isLong_any (e : Int × ByteArray) (w : World) (hz : e.2.size ≤ 140737488355328) : Calls Try.prog 24 #[.agg #[.int .i64 e.1, .string e.2]] w fun r w' => r = .returned (.bool (longB e)) ∧ Below w.heap.size w w' := by
  obtain ⟨z, s⟩ := e
  by_cases h : 80 < s.size
  · have h' : decide ((80 : Int) < (s.size : Int)) = true := by simp; omega
    have h2 : longB (z, s) = true := decide_eq_true h
    rw [h2]
    clear h2
    go_enter Try.func24, Try.ntmps24
    go_wp2
    go_ret
    exact ⟨by rw [← h']; rfl, (Below.refl _ _).alloc (Nat.le_refl _) _⟩
  · have h' : decide ((80 : Int) < (s.size : Int)) = false := by simp; omega
    have h2 : longB (z, s) = false := decide_eq_false h
    rw [h2]
    clear h2
    go_enter Try.func24, Try.ntmps24
    go_wp2
    go_ret
    exact ⟨by rw [← h']; rfl, (Below.refl _ _).alloc (Nat.le_refl _) _⟩
/-- Entries in a row. -/
structure Es (w : World) (l : List (Int × ByteArray)) (A : Option Addr) (n c : Nat) : Prop where
  en : n = l.length
  es : Seg w A (entV l)
  bn : n ≤ 5864062014805
  be : ∀ e ∈ l, inI e.1 ∧ e.2.size ≤ 140737488355328
theorem Es.bel {w w' : World} {l : List (Int × ByteArray)} {A : Option Addr} {n c : Nat} (h : Es w l A n c) (hb : Below w.heap.size w w') : Es w' l A n c := ⟨h.en, h.es.bel hb, h.bn, h.be⟩
theorem Es.at {w : World} {l : List (Int × ByteArray)} {A : Option Addr} {n c k : Nat} (h : Es w l A n c) (hk : k < l.length) : ∃ b off, A = some ⟨b, off, none⟩ ∧ b < w.heap.size ∧ w.cell? ⟨b, off + k * 2, none⟩ = some (.int .i64 l[k].1) ∧ w.cell? ⟨b, off + k * 2 + 1, none⟩ = some (.string l[k].2) := by
  obtain ⟨b, off, e, hl, hc⟩ := h.es (by
    intro e0
    have := entV_length l
    rw [e0] at this
    simp only [List.length_nil] at this
    omega)
  have h1 := entV_length l
  obtain ⟨a1, a2⟩ := entV_at l k hk
  exact ⟨b, off, e, hl, by rw [hc _ (by omega), a1], by rw [Nat.add_assoc, hc _ (by omega), a2]⟩
theorem any_no {l : List (Int × ByteArray)} (h : ∀ j (hj : j < l.length), longB l[j] = false) : l.any longB = false := by
  rw [List.any_eq_false]
  intro x hx
  obtain ⟨j, hj, rfl⟩ := List.mem_iff_getElem.1 hx
  rw [h j hj]; simp
theorem any_yes {l : List (Int × ByteArray)} {j : Nat} (hj : j < l.length) (h : longB l[j] = true) : l.any longB = true := List.any_eq_true.2 ⟨_, List.getElem_mem hj, h⟩
set_option maxRecDepth 100000 in
theorem index_ent (l : List (Int × ByteArray)) (A : Option Addr) (n c : Nat) (w : World) (hA : Es w l A n c) :
    Calls Try.prog 34 #[.slice A n c, .func (.func 24) #[] #[]] w fun e w' => (∃ i : Int, e = .returned (.int .i64 i) ∧ decide (0 ≤ i) = l.any longB) ∧ Below w.heap.size w w' := by
  have hb := hA.bn
  have HA := Lib.hid hA
  clear hA
  go_enter Try.func34, Try.ntmps34
  go_wp2
  go_loopw [8] (fun i wr => ∃ m : Nat, m ≤ n ∧ i = .int .i64 m ∧ Hid (∀ j (hj : j < l.length), j < m → longB l[j] = false) ∧ Below w.heap.size w wr) (fun i _ => n - (intOf i).toNat)
  case atStart => exact ⟨0, by omega, rfl, Lib.hid (fun j _ hj => by omega), Below.refl _ _⟩
  case round =>
    obtain ⟨m, hm, rfl, hv, hbw⟩ := hrel
    have HB := Lib.hid hbw
    have HA2 := Lib.hid (HA.out.bel hbw)
    clear hbw
    by_cases hlt : m < n
    · have hml : m < l.length := by have := HA.out.en; omega
      obtain ⟨b, off, rfl, hbl, hc1, hc2⟩ := HA2.out.at hml
      have hz := (HA.out.be _ (List.getElem_mem hml)).2
      have C1 := isLong_any (l[m]) wr hz
      by_cases h1 : longB l[m] = true
      · have HF := Lib.hid (any_yes hml h1)
        rw [h1] at C1
        have C1 := Lib.hid C1
        clear h1 hv HA2 hz
        generalize l[m] = s at *
        go_wp2_with (refine (C1.out).mono ?_; rintro e w' ⟨rfl, hb'⟩; have HB' := Lib.hid hb'; clear hb')
        go_ret
        exact ⟨⟨_, rfl, by rw [HF.out]; simp⟩, HB.out.trans (HB'.out.mono HB.out.size)⟩
      · have h1 : longB l[m] = false := by simpa using h1
        have HV := Lib.hid (show ∀ j (hj : j < l.length), j < m + 1 → longB l[j] = false by
          intro j hj hj2
          by_cases e : j = m
          · subst e
            exact h1
          · exact hv.out j hj (by omega))
        rw [h1] at C1
        have C1 := Lib.hid C1
        clear h1 hv HA2 hz
        generalize l[m] = s at *
        go_wp2_with (refine (C1.out).mono ?_; rintro e w' ⟨rfl, hb'⟩; have HB' := Lib.hid hb'; clear hb')
        go_roundw
        case rel => exact ⟨m + 1, by omega, by go_num, HV, HB.out.trans (HB'.out.mono HB.out.size)⟩
        case measure => simp [intOf]; omega
    · have HF := Lib.hid (any_no (l := l) (fun j hj => hv.out j hj (by have := HA.out.en; omega)))
      clear hv HA2
      go_wp2
      go_ret
      exact ⟨⟨_, rfl, by rw [HF.out]; rfl⟩, HB.out⟩
theorem contains_ent (l : List (Int × ByteArray)) (A : Option Addr) (n c : Nat) (w : World) (hA : Es w l A n c) :
    Calls Try.prog 23 #[.slice A n c, .func (.func 24) #[] #[]] w fun e w' => e = .returned (.bool (l.any longB)) ∧ Below w.heap.size w w' := by
  have C1 := Lib.hid (index_ent l A n c w hA)
  clear hA
  go_enter Try.func23, Try.ntmps23
  go_wp2_with (refine (C1.out).mono ?_; rintro e w' ⟨⟨i, rfl, hi⟩, hb⟩; have HI := Lib.hid hi; have HB := Lib.hid hb; clear hi hb)
  go_ret
  exact ⟨by rw [← HI.out]; rfl, HB.out⟩
end Go.Proofs.Ytgifbjomaenlnaa
