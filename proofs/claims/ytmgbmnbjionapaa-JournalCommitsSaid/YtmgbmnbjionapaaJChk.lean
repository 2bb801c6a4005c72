/- What a journal answers of a list of writes ahead of a commit. Conditions: the journal, its disk and the list lie in memory. -/
import Derived.Test.YtmgbmnbjionapaaJFits
import Derived.BigQuiet
import Derived.Deep.QuietTactic
namespace Go.Proofs.Ytmgbmnbjionapaa
open Go.RowKit

/-- A write that is asked for. -/
structure BW where
  n : Int
  l : List Nat
structure BsAt (w : World) (A : Option Addr) (ws : List BW) : Prop where
  at' : ∀ k (hk : k < ws.length), ∃ b off Ad c, A = some ⟨b, off, none⟩ ∧ b < w.heap.size ∧ w.cell? ⟨b, off + k * 2, none⟩ = some (.int .i64 (ws[k]).n) ∧ w.cell? ⟨b, off + k * 2 + 1, none⟩ = some (.slice Ad (ws[k]).l.length c) ∧ Seg w Ad (u8s (ws[k]).l)
theorem BsAt.bel {w w' : World} {A : Option Addr} {ws : List BW} (h : BsAt w A ws) (k : Below w.heap.size w w') : BsAt w' A ws := by
  refine ⟨fun i hi => ?_⟩
  obtain ⟨b, off, Ad, c, hA, hb, h0, h1, hs⟩ := h.at' i hi
  exact ⟨b, off, Ad, c, hA, Nat.lt_of_lt_of_le hb k.size, (k.cell (p := ⟨b, off + i * 2, none⟩) hb).trans h0, (k.cell (p := ⟨b, off + i * 2 + 1, none⟩) hb).trans h1, hs.bel k⟩
/-- A write that no disk of so many blocks can take. -/
def BW.bad (x : BW) (T : Nat) : Prop := x.n < 0 ∨ (T : Int) ≤ x.n ∨ x.l.length ≠ 256
instance (x : BW) (T : Nat) : Decidable (x.bad T) := by unfold BW.bad; infer_instance
set_option maxRecDepth 100000 in
set_option maxHeartbeats 2000000 in
theorem jcheck_big (q p b s _T : Nat) (_S : Nat → Prop) (_D : DM) (A : Option Addr) (n c : Nat) (w : World) (hJ : Bk w q 101 (JrC p b s)) (hn : s < n) :
    Calls Try.prog 57 #[.pointer (some ⟨q, 0, none⟩), .slice A n c] w fun e w' => e = .returned (.int .i64 2) ∧ w = w' := by
  have j2 := hJ.cell 2
  simp only [JrC, List.getElem?_toArray, List.getElem?_cons_zero, List.getElem?_cons_succ] at j2
  have hI : (s : Int) < (n : Int) := by omega
  clear hJ hn
  go_enter Try.func57, Try.ntmps57
  go_wp2_with fail
  go_ret
  exact ⟨rfl, rfl⟩
set_option maxRecDepth 100000 in
set_option maxHeartbeats 4000000 in
theorem jcheck_arg (q p b s T : Nat) (S : Nat → Prop) (D : DM) (A : Option Addr) (n c : Nat) (ws : List BW) (w : World) (hJ : Bk w q 101 (JrC p b s)) (hD : Dsk w S p T D) (hn : n = ws.length) (hs : n ≤ s) (hW : BsAt w A ws) (hz : n ≤ 1000) (hbad : ∃ x ∈ ws, x.bad T) :
    Calls Try.prog 57 #[.pointer (some ⟨q, 0, none⟩), .slice A n c] w fun e w' => e = .returned (.int .i64 1) ∧ Below w.heap.size w w' := by
  have j2 := hJ.cell 2
  simp only [JrC, List.getElem?_toArray, List.getElem?_cons_zero, List.getElem?_cons_succ] at j2
  have hI : ¬ (s : Int) < (n : Int) := by omega
  have HJ := Lib.hid hJ
  have HD := Lib.hid hD
  have HN := Lib.hid hn
  have HW := Lib.hid hW
  have HBAD := Lib.hid hbad
  clear hJ hD hn hW hbad
  go_enter Try.func57, Try.ntmps57
  go_wp2_with fail
  go_loopw [20] (fun i wr => ∃ k : Nat, k ≤ n ∧ i = .int .i64 k ∧ (∀ j (hj : j < ws.length), j < k → ¬ (ws[j]).bad T) ∧ Below w.heap.size w wr) (fun i _ => n - (intOf i).toNat)
  case atStart => exact ⟨0, by omega, rfl, fun j _ hj => by omega, Below.refl _ _⟩
  case round =>
    obtain ⟨k, hk, rfl, hall, hb⟩ := hrel
    have HB := Lib.hid hb
    by_cases hkn : k < n
    · have hkl : k < ws.length := by rw [← HN.out]; exact hkn
      have hkI : (k : Int) < (n : Int) := by omega
      have hk0 : (0 : Int) ≤ (k : Int) := by omega
      obtain ⟨b1, off, Ad, c1, rfl, hb1, c0, c1', _⟩ := (HW.out.bel hb).at' k hkl
      obtain ⟨x, hx⟩ : ∃ x, x = ws[k] := ⟨_, rfl⟩
      rw [← hx] at c0
      have c1'' : wr.cell? ⟨b1, off + k * 2 + 1, none⟩ = some (.slice Ad x.l.length c1) := by rw [hx]; exact c1'
      obtain ⟨w5, hw5⟩ : ∃ w5, w5 = wr.alloc (.cells #[.int .i64 x.n, .slice Ad x.l.length c1] 76) := ⟨_, rfl⟩
      have B5 : Below wr.heap.size wr w5 := by rw [hw5]; exact (Below.refl _ _).alloc (Nat.le_refl _) _
      have X5 : Bk w5 wr.heap.size 76 #[.int .i64 x.n, .slice Ad x.l.length c1] := by rw [hw5]; exact Bk.new wr _ _
      have HB5 := Lib.hid (below_step hb B5)
      have J5 := (HJ.out.bel HB5.out).cell 0
      have x0 := X5.cell 0
      have x1 := X5.cell 1
      simp only [JrC, List.getElem?_toArray, List.getElem?_cons_zero, List.getElem?_cons_succ] at J5 x0 x1
      have CB := Lib.hid (fun m => ((HD.out.bel HB5.out).drewN m).blocks)
      have HX := Lib.hid hx
      have HWW := Lib.hid hw5
      have HALL := Lib.hid hall
      clear c1' hx hw5 B5 X5 hb hall
      go_upto_region 6 with fail
      rw [← HWW.out]
      by_cases hneg : x.n < 0
      · have d1 : decide (x.n < 0) = true := decide_eq_true hneg
        clear hneg
        go_quiet (fail)
        have HB6 := Lib.hid (below_drewN HB5.out nq)
        go_wp2_with fail
        go_ret
        exact ⟨rfl, HB6.out⟩
      · have d1 : decide (x.n < 0) = false := decide_eq_false hneg
        by_cases hbig : (T : Int) ≤ x.n
        · have d2 : decide ((T : Int) ≤ x.n) = true := decide_eq_true hbig
          clear hneg hbig
          go_quiet ((go_at_call 21; exact Calls.quiet_of_same ((CB.out _).mono fun _ _ ⟨h1, h2⟩ => ⟨h1, h2.symm⟩)))
          have HB6 := Lib.hid (below_drewN HB5.out nq)
          go_wp2_with fail
          go_ret
          exact ⟨rfl, HB6.out⟩
        · have d2 : decide ((T : Int) ≤ x.n) = false := decide_eq_false hbig
          by_cases hlen : x.l.length = 256
          · have d3 : ((x.l.length : Int) != 256) = false := by rw [hlen]; rfl
            have HNB := Lib.hid (show ¬ x.bad T from fun h => by unfold BW.bad at h; omega)
            have HALL2 := Lib.hid (show ∀ j (hj : j < ws.length), j < k + 1 → ¬ (ws[j]).bad T from fun j hj hjk => by
              by_cases e : j = k
              · subst e; rw [← HX.out]; exact HNB.out
              · exact HALL.out j hj (by omega))
            clear hneg hbig hlen
            go_quiet ((go_at_call 21; exact Calls.quiet_of_same ((CB.out _).mono fun _ _ ⟨h1, h2⟩ => ⟨h1, h2.symm⟩)))
            have HB6 := Lib.hid (below_drewN HB5.out nq)
            go_wp2_with fail
            exact ⟨⟨k + 1, by omega, by go_num, HALL2.out, HB6.out⟩, by simp [intOf]; omega⟩
          · have d3 : ((x.l.length : Int) != 256) = true := by rw [bne_iff_ne]; omega
            clear hneg hbig hlen
            go_quiet ((go_at_call 21; exact Calls.quiet_of_same ((CB.out _).mono fun _ _ ⟨h1, h2⟩ => ⟨h1, h2.symm⟩)))
            have HB6 := Lib.hid (below_drewN HB5.out nq)
            go_wp2_with fail
            go_ret
            exact ⟨rfl, HB6.out⟩
    · exfalso
      obtain ⟨x, hx, hb9⟩ := HBAD.out
      obtain ⟨j, hj, rfl⟩ := List.mem_iff_getElem.1 hx
      exact hall j hj (by rw [← HN.out] at hj; omega) hb9
end Go.Proofs.Ytmgbmnbjionapaa
