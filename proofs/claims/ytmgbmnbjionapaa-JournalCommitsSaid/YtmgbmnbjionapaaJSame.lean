/- Do the blocks outside the area have these contents? What the statements' helper answers. Condition: the disk and the rows lie in memory. -/
import Derived.Test.YtmgbmnbjionapaaJRefW
namespace Go.Proofs.Ytmgbmnbjionapaa
open Go.RowKit

/-- Rows of bytes in memory. -/
structure RsAt (w : World) (A : Option Addr) (rows : List (List Nat)) : Prop where
  at' : ∀ k (hk : k < rows.length), ∃ b off Ad c, A = some ⟨b, off, none⟩ ∧ b < w.heap.size ∧ w.cell? ⟨b, off + k, none⟩ = some (.slice Ad (rows[k]).length c) ∧ Seg w Ad (u8s (rows[k]))
theorem RsAt.bel {w w' : World} {A : Option Addr} {rows : List (List Nat)} (h : RsAt w A rows) (k : Below w.heap.size w w') : RsAt w' A rows := by
  refine ⟨fun i hi => ?_⟩
  obtain ⟨b, off, Ad, c, hA, hb, h0, hs⟩ := h.at' i hi
  exact ⟨b, off, Ad, c, hA, Nat.lt_of_lt_of_le hb k.size, (k.cell (p := ⟨b, off + i, none⟩) hb).trans h0, hs.bel k⟩
def outA (b s i : Nat) : Prop := i < b ∨ b + s + 2 ≤ i
instance (b s i : Nat) : Decidable (outA b s i) := by unfold outA; infer_instance
def sameP (D : DM) (b s : Nat) (rows : List (List Nat)) : Prop := ∀ i (hi : i < rows.length), outA b s i → rows[i] = D.rd i
set_option maxRecDepth 100000 in
set_option maxHeartbeats 4000000 in
theorem jsame_any (p T b s : Nat) (S : Nat → Prop) (D : DM) (A : Option Addr) (n c : Nat) (rows : List (List Nat)) (w : World) (hD : Dsk w S p T D) (hn : n = rows.length) (hnT : n ≤ T) (hb : b ≤ 10000) (hs : s ≤ 1000) (hR : RsAt w A rows) (hl : ∀ x ∈ rows, x.length ≤ 140737488355328) (B : Bool) (hy : sameP D b s rows → B = true) (hno : ¬ sameP D b s rows → B = false) :
    Calls Try.prog 39 #[.pointer (some ⟨p, 0, none⟩), .slice A n c, .int .i64 (b : Int), .int .i64 (s : Int)] w fun e w' => e = .returned (.bool B) ∧ Below w.heap.size w w' := by
  have HD := Lib.hid hD
  have HN := Lib.hid hn
  have HR := Lib.hid hR
  have HL := Lib.hid hl
  have HY := Lib.hid hy
  have HNO := Lib.hid hno
  have hT := hD.ok.top
  have e1 : wrap64 ((b : Int) + (s : Int)) = (b : Int) + (s : Int) := IntWalk.wrap64_in _ ⟨by omega, by omega⟩
  have e2 : wrap64 ((b : Int) + (s : Int) + 2) = (b : Int) + (s : Int) + 2 := IntWalk.wrap64_in _ ⟨by omega, by omega⟩
  clear hD hn hR hl hy hno
  go_enter Try.func39, Try.ntmps39
  go_wp2_with fail
  go_loopw [15] (fun i wr => ∃ k : Nat, k ≤ n ∧ i = .int .i64 k ∧ (∀ j (hj : j < rows.length), j < k → outA b s j → rows[j] = D.rd j) ∧ Below w.heap.size w wr) (fun i _ => n - (intOf i).toNat)
  case atStart => exact ⟨0, by omega, rfl, fun j _ hj => by omega, Below.refl _ _⟩
  case round =>
    obtain ⟨k, hk, rfl, hall, hbw⟩ := hrel
    by_cases hkn : k < n
    · have hkl : k < rows.length := by rw [← HN.out]; exact hkn
      have hkI : (k : Int) < (n : Int) := by omega
      have hk0 : (0 : Int) ≤ (k : Int) := by omega
      obtain ⟨b1, off, Ad, c1, rfl, hb1, c0, hs1⟩ := (HR.out.bel hbw).at' k hkl
      obtain ⟨x, hx⟩ : ∃ x, x = rows[k] := ⟨_, rfl⟩
      rw [← hx] at c0 hs1
      have hxl : x.length ≤ 140737488355328 := by rw [hx]; exact HL.out _ (List.getElem_mem hkl)
      have CR := Lib.hid ((HD.out.bel hbw).read_ok k (by omega))
      have HX := Lib.hid hx
      have HS1 := Lib.hid hs1
      have HALL := Lib.hid hall
      have HB := Lib.hid hbw
      clear hx hs1 hall hbw
      go_wp2_with fail
      refine CR.out.mono ?_
      rintro e w2 ⟨A2, c2, rfl, _, ho2, hb2⟩
      have HB2 := Lib.hid (below_step HB.out hb2)
      have hD2 := rd_length HD.out.ok k (show k < T by omega)
      by_cases hin : outA b s k
      · have CE := Lib.hid (same_bytes Ad A2 c1 c2 x.length 256 x (D.rd k) w2 rfl hD2.symm (HS1.out.bel hb2) (Seg.of_own ho2) hxl (by omega))
        by_cases he : x = D.rd k
        · have HALL2 := Lib.hid (show ∀ j (hj : j < rows.length), j < k + 1 → outA b s j → rows[j] = D.rd j from fun j hj hjk ho => by
            by_cases e : j = k
            · subst e; rw [← HX.out]; exact he
            · exact HALL.out j hj (by omega) ho)
          rw [decide_eq_true he] at CE
          unfold outA at hin
          clear he ho2 hb2 CR
          by_cases h1 : k < b
          · have h1I : (k : Int) < (b : Int) := by omega
            clear hin
            go_wp2_with fail
            refine CE.out.mono ?_
            rintro e w3 ⟨rfl, hb3⟩
            have HB3 := Lib.hid (below_step HB2.out hb3)
            clear hb3
            go_wp2_with fail
            exact ⟨⟨k + 1, by omega, by go_num, HALL2.out, HB3.out⟩, by simp [intOf]; omega⟩
          · have h1I : ¬ (k : Int) < (b : Int) := by omega
            have h2I : (b : Int) + (s : Int) + 2 ≤ (k : Int) := by omega
            clear hin
            go_wp2_with fail
            refine CE.out.mono ?_
            rintro e w3 ⟨rfl, hb3⟩
            have HB3 := Lib.hid (below_step HB2.out hb3)
            clear hb3
            go_wp2_with fail
            exact ⟨⟨k + 1, by omega, by go_num, HALL2.out, HB3.out⟩, by simp [intOf]; omega⟩
        · have HBF := Lib.hid (HNO.out (fun h => he (by rw [HX.out]; exact h k hkl hin)))
          rw [decide_eq_false he] at CE
          unfold outA at hin
          clear he ho2 hb2 CR
          by_cases h1 : k < b
          · have h1I : (k : Int) < (b : Int) := by omega
            clear hin
            go_wp2_with fail
            refine CE.out.mono ?_
            rintro e w3 ⟨rfl, hb3⟩
            have HB3 := Lib.hid (below_step HB2.out hb3)
            clear hb3
            go_wp2_with fail
            go_ret
            exact ⟨by rw [HBF.out]; rfl, HB3.out⟩
          · have h1I : ¬ (k : Int) < (b : Int) := by omega
            have h2I : (b : Int) + (s : Int) + 2 ≤ (k : Int) := by omega
            clear hin
            go_wp2_with fail
            refine CE.out.mono ?_
            rintro e w3 ⟨rfl, hb3⟩
            have HB3 := Lib.hid (below_step HB2.out hb3)
            clear hb3
            go_wp2_with fail
            go_ret
            exact ⟨by rw [HBF.out]; rfl, HB3.out⟩
      · have HALL2 := Lib.hid (show ∀ j (hj : j < rows.length), j < k + 1 → outA b s j → rows[j] = D.rd j from fun j hj hjk ho => by
          by_cases e : j = k
          · subst e; exact absurd ho hin
          · exact HALL.out j hj (by omega) ho)
        unfold outA at hin
        have h1I : ¬ (k : Int) < (b : Int) := by omega
        have h2I : ¬ (b : Int) + (s : Int) + 2 ≤ (k : Int) := by omega
        clear hin ho2 hb2 CR
        go_wp2_with fail
        exact ⟨⟨k + 1, by omega, by go_num, HALL2.out, HB2.out⟩, by simp [intOf]; omega⟩
    · obtain rfl : k = n := by omega
      have hkk : ¬ (k : Int) < (k : Int) := by omega
      have HBT := Lib.hid (HY.out (fun j hj ho => hall j hj (by rw [← HN.out] at hj; omega) ho))
      have HB := Lib.hid hbw
      clear hall hbw
      go_wp2_with fail
      go_ret
      exact ⟨by rw [HBT.out]; rfl, HB.out⟩
end Go.Proofs.Ytmgbmnbjionapaa
