/- The reference's Check. Condition: the message's entries lie in memory. -/
import Derived.Test.YtgifbjomaenlnaaWChk
namespace Go.Proofs.Ytgifbjomaenlnaa
open Go.RowKit

set_option maxRecDepth 100000 in
theorem rcheck_any (m : MsgM) (A : Option Addr) (n c : Nat) (w : World) (h : Mg w m A n c) :
    Calls Try.prog 10 #[.agg (msgC m A n c)] w fun e w' => e = .returned (.int .i64 (checkN m : Nat)) ∧ Below w.heap.size w w' := by
  obtain ⟨K, hK⟩ : ∃ K, K = m.kind := ⟨_, rfl⟩
  have hk := h.bk
  have HE := Lib.hid h.en
  have hn := h.bn
  have H := Lib.hid h.ent'
  unfold msgC checkN
  rw [← hK] at hk ⊢
  obtain ⟨k1, k2⟩ := hk
  clear h hK
  by_cases h1 : K < 0
  · rw [if_pos (Or.inl h1)]
    go_enter Try.func10, Try.ntmps10
    go_wp2
    go_ret
    exact ⟨rfl, (Below.refl _ _).alloc (Nat.le_refl _) _⟩
  · by_cases h2 : 255 < K
    · rw [if_pos (Or.inr h2)]
      go_enter Try.func10, Try.ntmps10
      go_wp2
      go_ret
      exact ⟨rfl, (Below.refl _ _).alloc (Nat.le_refl _) _⟩
    · rw [if_neg (by omega)]
      by_cases h3 : 8 < n
      · rw [if_pos (Or.inl (by rw [← HE.out]; exact h3))]
        go_enter Try.func10, Try.ntmps10
        go_wp2
        go_ret
        exact ⟨rfl, (Below.refl _ _).alloc (Nat.le_refl _) _⟩
      · have h3' : ¬ 8 < m.ents.length := by rw [← HE.out]; exact h3
        obtain ⟨R, hR⟩ : ∃ R : Nat, R = if 8 < m.ents.length ∨ m.ents.any longB = true then 2 else 0 := ⟨_, rfl⟩
        rw [← hR]
        have HYES := Lib.hid (fun (j : Nat) (hj : j < m.ents.length) (hl : longB m.ents[j] = true) => show R = 2 by rw [hR, if_pos (Or.inr (any_yes hj hl))])
        have HNO := Lib.hid (fun (hno : ∀ j (hj : j < m.ents.length), longB m.ents[j] = false) => show R = 0 by rw [hR, if_neg (by rintro (h | h); exact h3' h; rw [any_no hno] at h; cases h)])
        clear hR h3'
        go_enter Try.func10, Try.ntmps10
        go_wp2_with fail
        go_loopw [20] (fun i wr => ∃ j : Nat, j ≤ n ∧ i = .int .i64 (j : Int) ∧ Hid (∀ i (hi : i < m.ents.length), i < j → longB m.ents[i] = false) ∧ Hid (Below w.heap.size w wr)) (fun i _ => n - (intOf i).toNat)
        case atStart => exact ⟨0, by omega, rfl, Lib.hid (fun i _ hi => by omega), Lib.hid ((Below.refl _ _).alloc (Nat.le_refl _) _)⟩
        case round =>
          obtain ⟨j, hj, rfl, hv, HB⟩ := hrel
          by_cases hlt : j < n
          · have hjl : j < m.ents.length := by have := HE.out; omega
            obtain ⟨b, off, rfl, hbl, y1, y2⟩ := (H.out.bel HB.out).at hjl
            have hsz := (H.out.be _ (List.getElem_mem hjl)).2
            by_cases hl : longB m.ents[j] = true
            · have HR := Lib.hid (HYES.out j hjl hl)
              have hl2 : 80 < m.ents[j].2.size := of_decide_eq_true hl
              clear hv hl
              generalize m.ents[j].1 = Z at *
              generalize m.ents[j].2 = T at *
              go_wp2_with fail
              go_ret
              exact ⟨by rw [HR.out]; rfl, HB.out.alloc HB.out.size _⟩
            · have hl0 : longB m.ents[j] = false := by simpa using hl
              have hl2 : ¬ 80 < m.ents[j].2.size := of_decide_eq_false hl0
              have HV := Lib.hid (show ∀ i (hi : i < m.ents.length), i < j + 1 → longB m.ents[i] = false by
                intro i hi hi2
                by_cases e : i = j
                · subst e; exact hl0
                · exact hv.out i hi (by omega))
              clear hv hl hl0
              generalize m.ents[j].1 = Z at *
              generalize m.ents[j].2 = T at *
              go_wp2_with fail
              go_roundw
              case rel => exact ⟨j + 1, by omega, by go_num, HV, Lib.hid (HB.out.alloc HB.out.size _)⟩
              case measure => simp [intOf]; omega
          · have HR := Lib.hid (HNO.out (fun i hi => hv.out i hi (by have := HE.out; omega)))
            clear hv
            go_wp2_with fail
            go_ret
            exact ⟨by rw [HR.out]; rfl, HB.out⟩
end Go.Proofs.Ytgifbjomaenlnaa
