/- slices.Delete of one page out of a row of one's own. Condition: the place lies in the row. -/
import Derived.Test.YtfbpagbfdccgfaaProg
import Derived.Test.YtfbpagbfdccgfaaGM
import Derived.WalkKit
import Derived.WalkLawsBesides
import Derived.Deep.RegionLaw
import Derived.Shelf.RegionOpenPlain
import Derived.Deep.LoopGhost
import Derived.Lib.Walk
import Derived.Sort.WalkB12
import Derived.Lib.SliceRun
import Derived.Laws.AppendOwn
namespace Go.Proofs.Ytfbpagbfdccgfaa
open Go.RowKit

theorem info_held : (Try.prog.info? 61).map (fun i => (i.zero, i.size, i.bytes)) = some (some (.agg #[.int .i64 0, .int .i64 0, .bool false]), 3, 24) := by kernel_rfl
theorem take_app2 {α : Type} (a b c : List α) (n : Nat) (h : n = a.length + b.length) : (a ++ b ++ c).take n = a ++ b := by
  subst h
  rw [← List.length_append, List.take_left]
theorem run_clear_one (w : World) (t e ty : TypeId) (z : Value) (zs : List Value) (ht : Try.prog.underlying t = some (.slice e)) (hv : ∀ w, (zeroValue e).run Try.prog w = .ok z w) (hz : z.cells.toList = zs) (h1 : ∀ u ∈ zs, u.oneCell' = true) (b o c : Nat)
    (hc : ∀ j, j < zs.length → (w.cell? ⟨b, o + j, none⟩).isSome = true) (hf : ∀ j, j < zs.length → w.frozen? ⟨b, o + j, none⟩ = false) :
    (Builtin.clear_ #[t] ty #[.slice (some ⟨b, o, none⟩) 1 c]).run Try.prog w = .ok (.tuple #[]) (w.setCells b o zs) := by
  have hzc : (Builtin.zeroCells z.cells 1).toList = zs := by
    rw [← hz]
    simp [Builtin.zeroCells]
    apply List.ext_getElem
    · simp
    · intro i h1 h2
      simp at h1 h2
      simp only [List.getElem_map, List.getElem_range, Array.getElem_toList]
      rw [Nat.mod_eq_of_lt h2, getElem!_pos z.cells i h2]
  have hst := run_storeCells_cells (P := Try.prog) b o zs 0 w (by simpa using hc) (by simpa using hf) h1
  simp only [Nat.add_zero] at hst
  simp [Builtin.clear_, run_underlying ht, hv, hzc, hst]
set_option maxRecDepth 100000 in
set_option maxHeartbeats 4000000 in
theorem delH_any (B g n cap i : Nat) (l : List HeldM) (w : World) (hown : w.ownsRow B 61 3 (.slice (some ⟨g, 0, none⟩) n cap) n (rowH l)) (hi : i < n) (y : Int) (hy : y = (i : Int) + 1) :
    Calls Try.prog 31 #[.slice (some ⟨g, 0, none⟩) n cap, .int .i64 (i : Nat), .int .i64 y] w fun e w' => e = .returned (.slice (some ⟨g, 0, none⟩) (n - 1) cap) ∧ w'.ownsRow B 61 3 (.slice (some ⟨g, 0, none⟩) (n - 1) cap) (n - 1) (rowH (l.eraseIdx i)) ∧ ∀ S : Nat → Prop, S g → Kp S S w w' := by
  subst hy
  obtain ⟨i0, hi0, _, hz3, _⟩ := info_parts info_held
  obtain ⟨cur, hb, hnc, hcm, hcs, htk, hBg⟩ := own_cellsH hown
  have hln := own_lenH hown
  have hmx : cap ≤ 9223372036854775807 := by unfold maxLen at hcm; omega
  obtain ⟨news, hnews⟩ : ∃ news, news = rowH (l.drop (i + 1)) := ⟨_, rfl⟩
  have hlen : news.length = (n - (i + 1)) * 3 := by rw [hnews, rowH_length, List.length_drop, ← hln]
  obtain ⟨A, hA, hsrc⟩ : ∃ A : Addr, (if cap = i + 1 then some (⟨g, 0, none⟩ : Addr) else some ⟨g, (i + 1) * 3, none⟩) = some A ∧ Hid (∀ t u, news[t]? = some u → w.drew.cell? (A.add t) = some u) := by
    by_cases h : cap = i + 1
    · refine ⟨⟨g, 0, none⟩, by simp [h], fun t u hu => ?_⟩
      have h0 : news.length = 0 := by rw [hlen]; omega
      rw [List.length_eq_zero_iff.1 h0] at hu
      simp at hu
    · refine ⟨⟨g, (i + 1) * 3, none⟩, by simp [h], fun t u hu => ?_⟩
      have ht : t < (n - (i + 1)) * 3 := by
        have := (List.getElem?_eq_some_iff.1 hu).1
        rwa [hlen] at this
      rw [Addr.add_lit]
      show w.cell? _ = some u
      rw [hb.cell, ← hu, hnews, ← rowH_drop l (i + 1) (by omega), List.getElem?_drop, ← htk, List.getElem?_take, if_pos (by omega), Array.getElem?_toList]
  have s2 : Hid (∀ u ∈ news, u.oneCell' = true) := by rw [hnews]; exact rowH_one _
  have hcell : ∀ t, t < cap * 3 → (w.cell? ⟨g, t, none⟩).isSome = true := fun t ht => by rw [hb.cell]; simp [hcs, ht]
  have s3 : Hid (∀ t, t < news.length → (w.drew.cell? ⟨g, 0 + i * 3 + t, none⟩).isSome = true ∧ w.drew.frozen? ⟨g, 0 + i * 3 + t, none⟩ = false) := by
    intro t ht
    rw [hlen] at ht
    rw [Nat.zero_add]
    exact ⟨hcell _ (by omega), hb.frozen _⟩
  obtain ⟨W1, hW1⟩ : ∃ W1, W1 = w.drew.setCells g (0 + i * 3) news := ⟨_, rfl⟩
  have hb1 : Bk W1 g 61 (laid cur (i * 3) news) := by rw [hW1, Nat.zero_add]; exact Bk.puts news (i * 3) (w := w.drew) hb
  have hcl : ∀ ty, (Builtin.clear_ #[54] ty #[.slice (some ⟨g, (n - 1) * 3, none⟩) 1 (cap - (n - 1))]).run Try.prog W1 = .ok (.tuple #[]) (W1.setCells g ((n - 1) * 3) [.int .i64 0, .int .i64 0, .bool false]) :=
    fun ty => run_clear_one W1 _ _ ty _ [.int .i64 0, .int .i64 0, .bool false] Try.underlying54 Try.zeroValue61 rfl (by intro u hu; simp at hu; rcases hu with rfl | rfl <;> rfl) g ((n - 1) * 3) _ (fun j hj => by rw [hb1.cell]; simp [laid_size, hcs]; simp at hj; omega) (fun j _ => hb1.frozen _)
  have hfin := Lib.hid (show (W1.setCells g ((n - 1) * 3) [.int .i64 0, .int .i64 0, .bool false]).ownsRow B 61 3 (.slice (some ⟨g, 0, none⟩) (n - 1) cap) (n - 1) (rowH (l.eraseIdx i)) ∧ ∀ S : Nat → Prop, S g → Kp S S w (W1.setCells g ((n - 1) * 3) [.int .i64 0, .int .i64 0, .bool false]) by
    have hb2 := Bk.puts [.int .i64 0, .int .i64 0, .bool false] ((n - 1) * 3) hb1
    have he : l.eraseIdx i = l.take i ++ l.drop (i + 1) := List.eraseIdx_eq_take_drop_succ l i
    have hcl2 : cur.toList.length = cap * 3 := by rw [Array.length_toList, hcs]
    refine ⟨⟨by rw [rowH_length, List.length_eraseIdx, if_pos (by omega)]; omega, Or.inr ⟨g, cap, _, rfl, hBg, hb2, by omega, hcm, by rw [laid_size, laid_size]; exact hcs, ?_⟩⟩, fun S hS => ?_⟩
    · rw [laid_list _ _ _ (by rw [laid_size, hcs]; simp; omega), laid_list _ _ _ (by rw [hcs, hlen]; omega)]
      have h1 : cur.toList.take (i * 3) = rowH (l.take i) := by
        rw [← rowH_take l i (by omega), ← htk, List.take_take]; congr 1; omega
      have h2 : (cur.toList.take (i * 3) ++ news ++ cur.toList.drop (i * 3 + news.length)).take ((n - 1) * 3) = cur.toList.take (i * 3) ++ news := by
        refine take_app2 _ _ _ _ ?_
        rw [h1, rowH_length, List.length_take, hlen]; omega
      rw [h2, List.append_assoc, List.take_append_of_le_length (by rw [List.length_append, h1, rowH_length, List.length_take, hlen]; omega), List.take_of_length_le (by rw [List.length_append, h1, rowH_length, List.length_take, hlen]; omega), h1, hnews, he, rowH_append]
    · rw [hW1]
      exact Kp.puts hS _ _ (Kp.puts hS _ _ (Kp.refl S w).drew))
  have hW : Hid (W1 = w.drew.setCells g (0 + i * 3) news) := hW1
  have s1 := Lib.hid hlen
  have hic : i ≤ cap := by omega
  have hjc : i + 1 ≤ cap := by omega
  have HLN := Lib.hid hln
  have mixed : Try.prog.follows .mixedOrders = true := by kernel_rfl
  have e1 : i + (n - (i + 1)) = n - 1 := by omega
  have e2 : n - (n - 1) = 1 := by omega
  have e3 : ¬ cap = n - 1 := by omega
  have hI1 : (0 : Int) ≤ (i : Int) + 1 := by omega
  have hI2 : (i : Int) + 1 ≤ (n : Int) := by omega
  clear hW1 hb1 hnews hlen hb hcell htk hcs hown hln
  go_enter Try.func31, Try.ntmps31
  go_wp2_with fail
  go_region_law_o (refine step_append_room rfl (.tmp 22) (.tmp 25) 54 rfl 61 i0 3 Try.underlying54 hi0 hz3 g 0 i cap (by simp [Act.eval, Act.put]) A (n - (i + 1)) (cap - (i + 1)) news (by simp [Act.eval, Act.put]) s1.out hsrc.out s2.out (by omega) s3.out ?_; rw [← hW.out])
  go_wp2
  go_ret
  exact ⟨rfl, hfin.out⟩
end Go.Proofs.Ytfbpagbfdccgfaa
