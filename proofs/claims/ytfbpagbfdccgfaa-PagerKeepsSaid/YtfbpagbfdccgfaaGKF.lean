/- The statement's find, turned and has. Condition: the rows lie in memory. -/
import Derived.Test.YtfbpagbfdccgfaaGKM
namespace Go.Proofs.Ytfbpagbfdccgfaa
open Go.RowKit

set_option maxRecDepth 100000 in
set_option maxHeartbeats 1000000 in
theorem find_anyK (A : Option Addr) (n c : Nat) (l : List HeldM) (page : Int) (hn : n = l.length) (hz : n ≤ 1000000) (w : World) (hS : Seg w A (rowH l)) :
    Calls Try.prog 12 #[.slice A n c, .int .i64 page] w fun e w' => e = .returned (.int .i64 (findZ (isP page) l)) ∧ Below w.heap.size w w' := by
  have HS := Lib.hid hS
  have HN := Lib.hid hn
  clear hS hn
  go_enter Try.func12, Try.ntmps12
  go_wp2_with fail
  go_loopw [9] (fun s wr => ∃ i : Nat, i ≤ n ∧ s = .int .i64 i ∧ Hid (∀ j (hj : j < l.length), j < i → isP page l[j] = false) ∧ Hid (Below w.heap.size w wr)) (fun s _ => n - (intOf s).toNat)
  case atStart => exact ⟨0, Nat.zero_le _, rfl, Lib.hid (fun j _ h => by omega), Lib.hid (Below.refl _ _)⟩
  case round =>
    obtain ⟨i, hin, rfl, hF, hB⟩ := hrel
    by_cases hlt : i < n
    · have hil : i < l.length := by have := HN.out; omega
      obtain ⟨b, off, he, hbl, hcell⟩ := HS.out (by intro e; have := congrArg List.length e; rw [rowH_length] at this; simp only [List.length_nil] at this; omega)
      subst he
      obtain ⟨s, hs⟩ : ∃ s, s = l[i] := ⟨_, rfl⟩
      have CC : ∀ k, k < 3 → wr.cell? ⟨b, off + i * 3 + k, none⟩ = (heldV s)[k]? := fun k hk => by
        rw [Nat.add_assoc, World.cell?_of_block (hB.out.block b hbl), hcell (i * 3 + k) (by rw [rowH_length]; omega), rowH_at hil hk]; exact congrArg (fun x : HeldM => (heldV x)[k]?) hs.symm
      obtain ⟨pa, pb, pc⟩ := s
      have c0 : wr.cell? ⟨b, off + i * 3, none⟩ = some (.int .i64 pa) := CC 0 (by omega)
      have c1 : wr.cell? ⟨b, off + i * 3 + 1, none⟩ = some (.int .i64 (pb : Int)) := CC 1 (by omega)
      have c2 : wr.cell? ⟨b, off + i * 3 + 2, none⟩ = some (.bool pc) := CC 2 (by omega)
      obtain ⟨w1, hw1⟩ : ∃ x, x = wr.alloc (.cells #[.int .i64 pa, .int .i64 (pb : Int), .bool pc] 41) := ⟨_, rfl⟩
      have al1 : Below wr.heap.size wr w1 := by rw [hw1]; exact (Below.refl _ _).alloc (Nat.le_refl _) _
      have HB1 := Lib.hid (hB.out.trans (al1.mono hB.out.size))
      have bk := (Bk.new wr 41 #[.int .i64 pa, .int .i64 (pb : Int), .bool pc])
      rw [← hw1] at bk
      have b0 : w1.cell? ⟨wr.heap.size, 0, none⟩ = some (.int .i64 pa) := bk.cell 0
      have b2 : w1.cell? ⟨wr.heap.size, 2, none⟩ = some (.bool pc) := bk.cell 2
      have HW1 := Lib.hid hw1
      have E1 := Lib.hid (show ((i : Int) + 1) = ((i + 1 : Nat) : Int) by omega)
      have MM := Lib.hid (show n - (intOf (.int .i64 ((i + 1 : Nat) : Int))).toNat < n - (intOf (.int .i64 (i : Int))).toNat by simp only [intOf]; omega)
      have i1 : (0 : Int) ≤ (i : Int) := by omega
      have i2 : (i : Int) < (n : Int) := by omega
      by_cases hp : pa = page
      · have g1 : (pa == page) = true := by rw [hp]; exact beq_self_eq_true _
        have RES := Lib.hid (show findZ (isP page) l = (i : Int) from findZ_at hil (by rw [← hs]; exact g1) fun j hj h => by
          rcases Nat.lt_or_ge j i with q | q
          · rw [hF.out j hj q] at h; cases h
          · exact q)
        clear hs CC hcell hw1 al1 hF hB bk hp
        go_upto_region 4 with fail
        rw [← HW1.out]
        clear c0 c1 c2
        go_wp2_with fail
        go_ret
        exact ⟨by rw [RES.out]; rfl, HB1.out⟩
      · have g1 : (pa == page) = false := by simpa using hp
        have NX := Lib.hid (show ∀ j (hj : j < l.length), j < i + 1 → isP page l[j] = false from fun j hj h => by
          rcases Nat.lt_or_ge j i with q | q
          · exact hF.out j hj q
          · have : j = i := by omega
            subst this
            rw [← hs]; exact g1)
        clear hs CC hcell hw1 al1 hF hB bk hp
        go_upto_region 4 with fail
        rw [← HW1.out]
        clear c0 c1 c2
        go_wp2_with fail
        rw [E1.out]
        exact ⟨⟨i + 1, by omega, rfl, NX, HB1⟩, MM.out⟩
    · have i0 : ¬ (i : Int) < (n : Int) := by omega
      have RES := Lib.hid (show findZ (isP page) l = -1 from findZ_no fun j hj => hF.out j hj (by have := HN.out; omega))
      clear hF
      go_wp2_with fail
      go_ret
      exact ⟨by rw [RES.out]; rfl, hB.out⟩
set_option maxRecDepth 100000 in
set_option maxHeartbeats 1000000 in
theorem turned_any (A : Option Addr) (n c : Nat) (l : List HeldM) (hn : n = l.length) (hz : n ≤ 1000000) (w : World) (hS : Seg w A (rowH l)) :
    Calls Try.prog 11 #[.slice A n c] w fun e w' => e = .returned (.int .i64 (turnN l : Nat)) ∧ Below w.heap.size w w' := by
  have HS := Lib.hid hS
  have HN := Lib.hid hn
  clear hS hn
  go_enter Try.func11, Try.ntmps11
  go_wp2_with fail
  go_loopw [3, 8] (fun s3 s wr => ∃ (i t : Nat), i ≤ n ∧ t ≤ i ∧ s = .int .i64 i ∧ s3 = .int .i64 t ∧ Hid (t = turnN (l.take i)) ∧ Hid (Below w.heap.size w wr)) (fun _ s _ => n - (intOf s).toNat)
  case atStart => exact ⟨0, 0, Nat.zero_le _, Nat.le_refl _, rfl, rfl, Lib.hid rfl, Lib.hid (Below.refl _ _)⟩
  case round =>
    obtain ⟨i, t, hin, hti, rfl, rfl, hT, hB⟩ := hrel
    by_cases hlt : i < n
    · have hil : i < l.length := by have := HN.out; omega
      obtain ⟨b, off, he, hbl, hcell⟩ := HS.out (by intro e; have := congrArg List.length e; rw [rowH_length] at this; simp only [List.length_nil] at this; omega)
      subst he
      obtain ⟨s, hs⟩ : ∃ s, s = l[i] := ⟨_, rfl⟩
      have CC : ∀ k, k < 3 → wr.cell? ⟨b, off + i * 3 + k, none⟩ = (heldV s)[k]? := fun k hk => by
        rw [Nat.add_assoc, World.cell?_of_block (hB.out.block b hbl), hcell (i * 3 + k) (by rw [rowH_length]; omega), rowH_at hil hk]; exact congrArg (fun x : HeldM => (heldV x)[k]?) hs.symm
      obtain ⟨pa, pb, pc⟩ := s
      have c0 : wr.cell? ⟨b, off + i * 3, none⟩ = some (.int .i64 pa) := CC 0 (by omega)
      have c1 : wr.cell? ⟨b, off + i * 3 + 1, none⟩ = some (.int .i64 (pb : Int)) := CC 1 (by omega)
      have c2 : wr.cell? ⟨b, off + i * 3 + 2, none⟩ = some (.bool pc) := CC 2 (by omega)
      obtain ⟨w1, hw1⟩ : ∃ x, x = wr.alloc (.cells #[.int .i64 pa, .int .i64 (pb : Int), .bool pc] 41) := ⟨_, rfl⟩
      have al1 : Below wr.heap.size wr w1 := by rw [hw1]; exact (Below.refl _ _).alloc (Nat.le_refl _) _
      have HB1 := Lib.hid (hB.out.trans (al1.mono hB.out.size))
      have bk := (Bk.new wr 41 #[.int .i64 pa, .int .i64 (pb : Int), .bool pc])
      rw [← hw1] at bk
      have b0 : w1.cell? ⟨wr.heap.size, 0, none⟩ = some (.int .i64 pa) := bk.cell 0
      have b2 : w1.cell? ⟨wr.heap.size, 2, none⟩ = some (.bool pc) := bk.cell 2
      have HW1 := Lib.hid hw1
      have E1 := Lib.hid (show ((i : Int) + 1) = ((i + 1 : Nat) : Int) by omega)
      have MM := Lib.hid (show n - (intOf (.int .i64 ((i + 1 : Nat) : Int))).toNat < n - (intOf (.int .i64 (i : Int))).toNat by simp only [intOf]; omega)
      have i1 : (0 : Int) ≤ (i : Int) := by omega
      have i2 : (i : Int) < (n : Int) := by omega
      have NX := Lib.hid (show turnN (l.take (i + 1)) = t + if pc then 1 else 0 by rw [turn_next hil, ← hT.out, ← hs])
      clear hs CC hcell hw1 al1 hT hB bk
      cases pc with
      | true =>
        have NY := Lib.hid (show t + 1 = turnN (l.take (i + 1)) from NX.out.symm)
        have E2 := Lib.hid (show ((t : Int) + 1) = ((t + 1 : Nat) : Int) by omega)
        clear NX
        go_upto_region 5 with fail
        rw [← HW1.out]
        clear c0 c1 c2
        go_wp2_with fail
        rw [E1.out, E2.out]
        exact ⟨⟨i + 1, t + 1, by omega, by omega, rfl, rfl, NY, HB1⟩, MM.out⟩
      | false =>
        have NY := Lib.hid (show t = turnN (l.take (i + 1)) from NX.out.symm)
        clear NX
        go_upto_region 5 with fail
        rw [← HW1.out]
        clear c0 c1 c2
        go_wp2_with fail
        rw [E1.out]
        exact ⟨⟨i + 1, t, by omega, by omega, rfl, rfl, NY, HB1⟩, MM.out⟩
    · have i0 : ¬ (i : Int) < (n : Int) := by omega
      have RES := Lib.hid (show turnN l = t by rw [hT.out, List.take_of_length_le (by have := HN.out; omega)])
      clear hT
      go_wp2_with fail
      go_ret
      exact ⟨by rw [RES.out]; rfl, hB.out⟩
set_option maxRecDepth 100000 in
set_option maxHeartbeats 1000000 in
theorem has_any (A : Option Addr) (n c : Nat) (l : List Int) (x : Int) (hn : n = l.length) (hz : n ≤ 1000000) (hx : l.contains x = false) (w : World) (hS : Seg w A (intV l)) :
    Calls Try.prog 13 #[.slice A n c, .int .i64 x] w fun e w' => e = .returned (.bool false) ∧ Below w.heap.size w w' := by
  have HS := Lib.hid hS
  have HN := Lib.hid hn
  have HX := Lib.hid hx
  clear hS hn hx
  go_enter Try.func13, Try.ntmps13
  go_wp2_with fail
  go_loopw [9] (fun s wr => ∃ i : Nat, i ≤ n ∧ s = .int .i64 i ∧ Hid (Below w.heap.size w wr)) (fun s _ => n - (intOf s).toNat)
  case atStart => exact ⟨0, Nat.zero_le _, rfl, Lib.hid (Below.refl _ _)⟩
  case round =>
    obtain ⟨i, hin, rfl, hB⟩ := hrel
    by_cases hlt : i < n
    · have hil : i < l.length := by have := HN.out; omega
      obtain ⟨b, off, he, hbl, hcell⟩ := HS.out (by intro e; have := congrArg List.length e; rw [intV_length] at this; simp only [List.length_nil] at this; omega)
      subst he
      obtain ⟨y, hy⟩ : ∃ y, y = l[i] := ⟨_, rfl⟩
      have c0 : wr.cell? ⟨b, off + i, none⟩ = some (.int .i64 y) := by
        rw [World.cell?_of_block (hB.out.block b hbl), hcell i (by rw [intV_length]; exact hil), hy]
        simp [intV, hil]
      have g1 : (y == x) = false := by
        cases q : y == x with
        | false => rfl
        | true =>
          have h1 := HX.out
          have h2 : l.contains x = true := by rw [List.contains_iff_mem, ← eq_of_beq q, hy]; exact List.getElem_mem hil
          rw [h2] at h1; cases h1
      have E1 := Lib.hid (show ((i : Int) + 1) = ((i + 1 : Nat) : Int) by omega)
      have MM := Lib.hid (show n - (intOf (.int .i64 ((i + 1 : Nat) : Int))).toNat < n - (intOf (.int .i64 (i : Int))).toNat by simp only [intOf]; omega)
      have i1 : (0 : Int) ≤ (i : Int) := by omega
      have i2 : (i : Int) < (n : Int) := by omega
      clear hcell hy
      go_wp2_with fail
      rw [E1.out]
      exact ⟨⟨i + 1, by omega, rfl, hB⟩, MM.out⟩
    · have i0 : ¬ (i : Int) < (n : Int) := by omega
      go_wp2_with fail
      go_ret
      exact ⟨rfl, hB.out⟩
end Go.Proofs.Ytfbpagbfdccgfaa
