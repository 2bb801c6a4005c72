/- What a feed gives, and how many wait. Condition: the feed lies in memory. -/
import Derived.Test.YtbpclifgafafdaaDoorShD
namespace Go.Proofs.YtbpclifgafafdaaDoor
open Go.RowKit Go.Shelf

theorem clone_any (B g n cap k : Nat) (xs : List Value) (w : World) (hown : w.ownsRow B 38 3 (.slice (some ⟨g, 0, none⟩) n cap) n xs) (hx : ∀ u ∈ xs, u.oneCell' = true) (hkn : k ≤ n) (hn : n ≤ 1000) :
    Calls Tryd.prog 14 #[.slice (some ⟨g, 0, none⟩) k cap] w fun e w' => ∃ v', e = .returned v' ∧ w'.ownsRow w.heap.size 38 3 v' k (xs.take (k * 3)) ∧ Below w.heap.size w w' := by
  obtain ⟨i0, hi0, hz0, hz3, hz4⟩ := info_parts info_ev
  have hl : xs.length = n * 3 := hown.1
  refine (AnyE.slices_Clone laysE41 i0 (.agg #[.int .i64 0, .int .i64 0, .string ⟨#[]⟩]) 3 32 hi0 hz0 hz3 hz4 rfl (by decide) (by intro w; kernel_rfl) g 0 k cap (xs.take (k * 3)) w (by rw [List.length_take, hl]; omega) (by simp only [maxLen]; omega) (by omega) (fun j u hj => ?_) (fun u hu => hx u (List.mem_of_mem_take hu))).mono ?_
  · rw [Nat.zero_add]
    have hj2 : j < k * 3 := by
      have := (List.getElem?_eq_some_iff.1 hj).1
      rw [List.length_take] at this; omega
    rw [List.getElem?_take, if_pos hj2] at hj
    have := hown.cells (g := g) rfl j u hj
    rwa [Addr.add_lit, Nat.zero_add] at this
  · rintro e w' ⟨v', h1, h2, _, h3⟩
    exact ⟨v', h1, h2, h3⟩
theorem clone_nil (w : World) :
    Calls Tryd.prog 14 #[.slice none 0 0] w fun e w' => e = .returned (.slice none 0 0) ∧ w = w' :=
  (AnyE.slices_Clone_nil laysE41 0 0 w).mono fun _ _ ⟨h1, h2⟩ => ⟨h1, h2.symm⟩
set_option maxRecDepth 100000 in
set_option maxHeartbeats 1000000 in
theorem del_zero (g n cap : Nat) (w : World) (hn : n ≤ cap) :
    Calls Tryd.prog 15 #[.slice (some ⟨g, 0, none⟩) n cap, .int .i64 0, .int .i64 0] w fun e w' => e = .returned (.slice (some ⟨g, 0, none⟩) n cap) ∧ w = w' := by
  go_enter Tryd.func15, Tryd.ntmps15
  go_wp2_with fail
  go_ret
  exact ⟨rfl, rfl⟩
set_option maxRecDepth 100000 in
set_option maxHeartbeats 1000000 in
theorem del_nil (w : World) :
    Calls Tryd.prog 15 #[.slice none 0 0, .int .i64 0, .int .i64 0] w fun e w' => e = .returned (.slice none 0 0) ∧ w = w' := by
  go_enter Tryd.func15, Tryd.ntmps15
  go_wp2_with fail
  go_ret
  exact ⟨rfl, rfl⟩
set_option maxRecDepth 100000 in
set_option maxHeartbeats 1000000 in
theorem waiting_any (q n : Nat) (A : Option Addr) (c : Nat) (b : Bool) (w : World) (h : Bk w q 50 (fdC (.slice A n c) b)) :
    Calls Tryd.prog 8 #[.pointer (some ⟨q, 0, none⟩)] w fun e w' => e = .returned (.int .i64 (n : Int)) ∧ w = w' := by
  have y := fd2 h
  clear h
  go_enter Tryd.func8, Tryd.ntmps8
  go_wp2_with fail
  go_ret
  exact ⟨rfl, rfl⟩
set_option maxRecDepth 100000 in
set_option maxHeartbeats 1000000 in
theorem follow_any (w : World) :
    Calls Tryd.prog 5 #[.string annZ, .int .i64 0] w fun e w' => ∃ q, e = .returned (.pointer (some ⟨q, 0, none⟩)) ∧ Fd w.heap.size q (.slice none 0 0) 0 [] false w' ∧ Below w.heap.size w w' := by
  go_enter Tryd.func5, Tryd.ntmps5
  go_wp2_with (go_at_call 11; refine (sclone_any annZ (by decide) w).mono ?_; rintro e w1 ⟨rfl, hb⟩)
  go_ret
  exact ⟨w1.heap.size, rfl, ⟨Bk.new w1 _ _, ⟨rfl, Or.inl ⟨rfl, rfl⟩⟩, hb.size⟩, hb.alloc hb.size _⟩
end Go.Proofs.YtbpclifgafafdaaDoor
