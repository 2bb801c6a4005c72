/- The reference's Do, whatever is asked. Condition: its disk and the call's bytes lie in memory. -/
import Derived.Test.YtmgbmnbjionapaaDpE
import Derived.Test.YtmgbmnbjionapaaDpF
import Derived.Test.YtmgbmnbjionapaaDpG
namespace Go.Proofs.Ytmgbmnbjionapaa
open Go.RowKit

theorem rdo_any (N : Nat → Prop) (Ab Aw : Option Addr) (T cb cw : Nat) (D : DM) (o : OpM) (A : Option Addr) (c : Nat) (w : World) (h : RfD N w Ab Aw D T) (hN : ∀ g, w.heap.size ≤ g → N g) (hS : Seg w A (u8s o.data)) (hkeep : o.keep < 18446744073709551616) :
    Calls Try.prog 17 #[RfV Ab T cb Aw D.wts.length cw (refL D), .agg (o.cells A c)] w (RdPost N w T (plStep T D o)) := by
  unfold plStep doR
  by_cases h1 : o.kind = 1
  · rw [if_pos h1]
    by_cases hin : (0 ≤ o.block ∧ o.block < (T : Int)) ∧ o.data.length = 256
    · rw [if_pos hin]
      obtain ⟨n, hn⟩ : ∃ n : Nat, o.block = (n : Int) := ⟨o.block.toNat, by omega⟩
      have hnT : n < T := by omega
      have wr : ∀ D', D.use = some D' → Calls Try.prog 17 #[RfV Ab T cb Aw D.wts.length cw (refL D), .agg (o.cells A c)] w (RdPost N w T (if D'.wts.length < 64 then (D'.put o.block.toNat o.data, [], 0) else (D', [], 2))) := fun D' hu => by
        by_cases hr : D'.wts.length < 64
        · rw [if_pos hr, hn, Int.toNat_natCast]
          exact rdo_write N Ab Aw T cb cw D o A c w h hN n h1 hn hnT hin.2 hS D' hu hr
        · rw [if_neg hr]
          exact rdo_write_full N Ab Aw T cb cw D o A c w h h1 hin.1 hin.2 D' hu hr
      rcases ref_use h.ok with ⟨h0, hu⟩ | ⟨_, D', hu, _⟩ | ⟨_, hu⟩
      · rw [hu]
        exact rdo_write_out N Ab Aw T cb cw D o A c w h h1 hin.1 hin.2 h0
      · have h2 := wr D' hu
        rw [hu]
        by_cases hr : D'.wts.length < 64
        · rw [if_pos hr] at h2; simp only [hr, if_true]; exact h2
        · rw [if_neg hr] at h2; simp only [hr, if_false]; exact h2
      · have h2 := wr D hu
        rw [hu]
        by_cases hr : D.wts.length < 64
        · rw [if_pos hr] at h2; simp only [hr, if_true]; exact h2
        · rw [if_neg hr] at h2; simp only [hr, if_false]; exact h2
    · rw [if_neg hin]
      exact rdo_write_no N Ab Aw T cb cw D o A c w h h1 (by
        by_cases h3 : inP o T
        · right; intro h4; exact hin ⟨h3, h4⟩
        · left; exact h3)
  · rw [if_neg h1]
    by_cases h2 : o.kind = 2
    · rw [if_pos h2]
      by_cases hin : 0 ≤ o.block ∧ o.block < (T : Int)
      · rw [if_pos hin]
        obtain ⟨n, hn⟩ : ∃ n : Nat, o.block = (n : Int) := ⟨o.block.toNat, by omega⟩
        rw [hn, Int.toNat_natCast]
        exact rdo_read N Ab Aw T cb cw D o A c w h n h2 hn (by omega)
      · rw [if_neg hin]
        exact rdo_read_no N Ab Aw T cb cw D o A c w h h2 hin
    · rw [if_neg h2]
      by_cases h3 : o.kind = 3
      · rw [if_pos h3]
        rcases ref_use h.ok with ⟨h0, hu⟩ | ⟨_, D', hu, _⟩ | ⟨_, hu⟩
        · rw [hu]
          exact rdo_flush_out N Ab Aw T cb cw D o A c w h h3 h0
        · have h4 := rdo_flush N Ab Aw T cb cw D o A c w h hN h3 D' hu
          rw [hu]; exact h4
        · have h4 := rdo_flush N Ab Aw T cb cw D o A c w h hN h3 D hu
          rw [hu]; exact h4
      · rw [if_neg h3]
        by_cases h4 : o.kind = 4
        · rw [if_pos h4]
          exact rdo_crash N Ab Aw T cb cw D o A c w h hN h4 hkeep
        · rw [if_neg h4]
          exact rdo_other N Ab Aw T cb cw D o A c w h h1 h2 h3 h4
end Go.Proofs.Ytmgbmnbjionapaa
