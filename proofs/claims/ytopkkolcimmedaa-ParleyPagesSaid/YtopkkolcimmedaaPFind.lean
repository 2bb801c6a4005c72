/- Find, of the program and of the reference: where a key stands in a node's row, and whether it is there. Condition: the node's keys are in their order (the program's), the rows lie in memory. -/
import Derived.Test.YtopkkolcimmedaaProg
import Derived.Test.YtopkkolcimmedaaPShelf
import Derived.Test.YtopkkolcimmedaaPFA
import Derived.Test.YtopkkolcimmedaaLaws
import Derived.WalkLawsBesides
import Derived.BigQuiet
import Derived.Deep.QuietTactic
import Derived.LoopTactic
import Derived.Deep.LoopGhost
namespace Go.Proofs.Ytopkkolcimmedaa
open Go.RowKit

/-- slices.BinarySearch of a row of keys in their order. -/
theorem bsearch_any (ks : List ByteArray) (A : Option Addr) (c : Nat) (x : ByteArray) (w : World) (hA : Seg w A (strV ks)) (hk : keysOk ks = true) (hb : ks.length ≤ 8796093022208) :
    Calls Try.prog 37 #[.slice A ks.length c, .string x] w fun e w' => e = .returned (.tuple #[.int .i64 (atN ks x : Nat), .bool (hitB ks x)]) ∧ Below w.heap.size w w' := by
  by_cases h0 : ks = []
  · subst h0
    refine (Any2.slices_BinarySearch_string_empty lays26 A c x w).mono ?_
    rintro e w' ⟨rfl, rfl⟩
    exact ⟨rfl, Below.refl _ _⟩
  · obtain ⟨b, off, rfl, hbs, hc⟩ := hA (by intro hn; apply h0; simpa [strV] using hn)
    have hcell : ∀ j, j < ks.length → w.cell? ⟨b, off + j, none⟩ = some (.string (ks.getD j x)) := fun j hj => by
      rw [hc j (by rw [strV_length]; exact hj)]; simp [strV, hj]
    refine (Any2.slices_BinarySearch_string lays26 b off ks.length c (fun t => ks.getD t x) x w (by omega) hcell).mono ?_
    rintro e w' ⟨rfl, q, rfl⟩
    refine ⟨?_, below_drewN (Below.refl _ _) q⟩
    rw [bs_is hk, hitB_is hk]

/-- Two texts are one if their bytes are. -/
theorem beq_toList (y x : ByteArray) : (y.toList == x.toList) = decide (y = x) := by
  by_cases h : y = x
  · subst h; simp
  · have h1 : ¬ y.toList = x.toList := fun e => by
      rw [ByteArray.toList_eq, ByteArray.toList_eq] at e
      exact h (ByteArray.ext (Array.toList_inj.1 e))
    rw [beq_eq_false_iff_ne.2 h1]
    simp [h]

set_option maxRecDepth 100000 in
set_option maxHeartbeats 2000000 in
/-- The program's Find. -/
theorem find_any (lf : Bool) (ks vs : List ByteArray) (cs : List Int) (A B C : Option Addr) (nk ca nv cb nc cc : Nat) (x : ByteArray) (w : World) (h : Nd w ⟨lf, ks, vs, cs⟩ A B C nk ca nv cb nc cc) (hk : keysOk ks = true) :
    Calls Try.prog 17 #[.agg #[.bool lf, .slice A nk ca, .slice B nv cb, .slice C nc cc], .string x] w fun e w' => e = .returned (.tuple #[.int .i64 (atN ks x : Nat), .bool (hitB ks x)]) ∧ Below w.heap.size w w' := by
  have HA := Lib.hid ((Below.refl w.heap.size w).alloc (Nat.le_refl _) (.cells #[.bool lf, .slice A nk ca, .slice B nv cb, .slice C nc cc] 30))
  have C1 := Lib.hid (fun c => bsearch_any ks A c x _ (h.sk.bel HA.out) hk (by have := h.bk; have := h.ek; simp at this; omega))
  have hl : nk = ks.length := h.ek
  clear h
  subst hl
  go_enter Try.func17, Try.ntmps17
  go_wp2_with fail
  refine (C1.out _).mono ?_
  rintro e w1 ⟨rfl, hb1⟩
  have HA1 := Lib.hid (HA.out.trans (hb1.mono HA.out.size))
  go_wp2_with fail
  go_ret2
  exact ⟨rfl, HA1.out⟩

set_option maxRecDepth 100000 in
set_option maxHeartbeats 2000000 in
/-- The reference's Find. -/
theorem rfind_any (lf : Bool) (ks vs : List ByteArray) (cs : List Int) (A B C : Option Addr) (nk ca nv cb nc cc : Nat) (x : ByteArray) (w : World) (h : Nd w ⟨lf, ks, vs, cs⟩ A B C nk ca nv cb nc cc) :
    Calls Try.prog 14 #[.agg #[.bool lf, .slice A nk ca, .slice B nv cb, .slice C nc cc], .string x] w fun e w' => e = .returned (.tuple #[.int .i64 (atN ks x : Nat), .bool (hitB ks x)]) ∧ Below w.heap.size w w' := by
  have H := Lib.hid h
  have HA := Lib.hid ((Below.refl w.heap.size w).alloc (Nat.le_refl _) (.cells #[.bool lf, .slice A nk ca, .slice B nv cb, .slice C nc cc] 30))
  have hl := Lib.hid (show nk = ks.length from h.ek)
  have bk : nk ≤ 8796093022208 := h.bk
  have HB := Lib.hid (Bk.new w 30 #[.bool lf, .slice A nk ca, .slice B nv cb, .slice C nc cc])
  clear h
  have y1 := HB.out.cell 1
  go_enter Try.func14, Try.ntmps14
  go_wp2_with fail
  go_loopw [6, 7, 13] (fun s b i wr => ∃ (k : Nat), k ≤ nk ∧ i = .int .i64 k ∧ s = .int .i64 (rankN ks x k : Nat) ∧ b = .bool (hitN ks x k) ∧ Hid (Below w.heap.size w wr)) (fun _ _ i _ => nk - (intOf i).toNat)
  case atStart => exact ⟨0, by omega, rfl, rfl, rfl, HA⟩
  case round =>
    obtain ⟨k, hkn, rfl, rfl, rfl, HW⟩ := hrel
    have hr := rankN_le ks x k
    clear y1
    by_cases hlt : k < nk
    · have hks : k < ks.length := by have := hl.out; omega
      obtain ⟨b, off, rfl, hbs, hc⟩ := (H.out.sk.bel HW.out).str hks
      have HR := Lib.hid (show rankN ks x (k + 1) = rankN ks x k + (lessK ks x k).toNat from rfl)
      have HL := Lib.hid (lessK_in (x := x) hks)
      have HH := Lib.hid (show hitN ks x (k + 1) = (hitN ks x k || decide (ks[k] = x)) by rw [← getD_at hks]; rfl)
      obtain ⟨y, hy⟩ : ∃ y, y = ks[k] := ⟨_, rfl⟩
      rw [← hy] at hc HL HH
      obtain ⟨r, hre⟩ : ∃ r, r = rankN ks x k := ⟨_, rfl⟩
      obtain ⟨z, hze⟩ : ∃ z, z = hitN ks x k := ⟨_, rfl⟩
      rw [← hre] at HR hr ⊢
      rw [← hze] at HH ⊢
      clear hre hze
      clear hks hy
      have r1 : r ≤ 8796093022208 := by omega
      have e1 : ((k : Int) + 1) = ((k + 1 : Nat) : Int) := by omega
      have E1 := Lib.hid e1
      have M : ∀ kk : Nat, kk = k + 1 → (nk - (intOf (.int .i64 (kk : Int))).toNat < nk - (intOf (.int .i64 (k : Int))).toNat) := fun kk hk2 => by subst hk2; simp only [intOf]; omega
      clear e1
      cases hl1 : Op.bytesLess y.toList x.toList
      · have HR' : Hid (rankN ks x (k + 1) = r) := Lib.hid (by rw [HR.out, HL.out, hl1]; rfl)
        clear HR
        go_wp2_with fail
        all_goals (rw [E1.out]; refine ⟨⟨k + 1, by omega, rfl, by rw [HR'.out], ?_, HW⟩, M _ rfl⟩)
        all_goals (rw [HH.out]; rw [← beq_toList]; simp [*])
      · have HR' : Hid (rankN ks x (k + 1) = r + 1) := Lib.hid (by rw [HR.out, HL.out, hl1]; rfl)
        clear HR
        go_wp2_with fail
        all_goals (rw [E1.out]; refine ⟨⟨k + 1, by omega, rfl, by rw [HR'.out]; rfl, ?_, HW⟩, M _ rfl⟩)
        all_goals (rw [HH.out]; rw [← beq_toList]; simp [*])
    · have hkk : k = nk := by omega
      have hks : k = ks.length := by rw [hkk]; exact hl.out
      have HK := Lib.hid hks
      clear hks hkk
      go_wp2_with fail
      go_ret2
      refine ⟨?_, HW.out⟩
      rw [show atN ks x = rankN ks x k by rw [HK.out]; rfl, show hitB ks x = hitN ks x k by rw [HK.out]; rfl]
      rfl
end Go.Proofs.Ytopkkolcimmedaa
