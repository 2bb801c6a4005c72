/- slices.Grow of nothing, slices.Concat of two rows of bytes. Condition: the bytes lie in memory. -/
import Derived.Test.YtnbhgjionpidnaaDoorSTurn
import Derived.Lib.AppendZeros
namespace Go.Proofs.YtnbhgjionpidnaaDoor
open Go.RowKit

theorem u8s_appendW (a b : List Nat) : u8s a ++ u8s b = u8s (a ++ b) := by simp [u8s]
theorem own_none {w : World} {b k c g : Nat} {e : TypeId} {xs : List Value} (h : w.ownsRow b e 1 (.slice (some ⟨g, 0, none⟩) k c) k xs) : w.ownsRow b e 1 (.slice (some ⟨g, 0, none⟩) 0 c) 0 [] := by
  rcases h.2 with ⟨h, _⟩ | ⟨g', cap, cur, h, h1, h2, h3, h4, h5, h6⟩
  · cases h
  · injection h with a1 _ a3
    injection a1 with a1
    injection a1 with a1
    subst a1
    subst a3
    exact ⟨rfl, .inr ⟨g, c, cur, rfl, h1, h2, Nat.zero_le _, h4, h5, by simp⟩⟩
set_option maxRecDepth 100000 in
theorem grow_any (k : Nat) (hk : k ≤ 100000) (w : World) :
    Calls Tryd.prog 40 #[.slice none 0 0, .int .i64 (k : Int)] w fun e w' => ∃ v, e = .returned v ∧ w'.ownsRow w.heap.size 5 1 v 0 [] ∧ Below w.heap.size w w' := by
  obtain ⟨i0, hi0, hz0, hz1, hz2⟩ := info_parts info5
  by_cases h0 : k = 0
  · subst h0
    go_enter Tryd.func40, Tryd.ntmps40
    go_wp2_with fail
    go_ret
    exact ⟨_, rfl, World.ownsRow_nil _ _ _ _, Below.refl _ _⟩
  · have i1 : ¬ (k : Int) < 0 := by omega
    have i2 : (0 : Int) < (k : Int) := by omega
    obtain ⟨v', w', hrun, hown, hb⟩ := run_append_zeros_own (P := Tryd.prog) w w.heap.size 25 3 25 5 i0 (.int .u8 0) .i64 Tryd.underlying25 Tryd.underlying3 hi0 hz0 hz1 hz2 rfl rfl (.slice none 0 0) 0 [] (World.ownsRow_nil _ _ _ _) k (by omega) (by omega) (Nat.le_refl _)
    rw [Nat.zero_add, List.nil_append] at hown
    obtain ⟨g, c, rfl⟩ : ∃ g c, v' = .slice (some ⟨g, 0, none⟩) k c := by
      rcases hown.2 with ⟨_, h⟩ | ⟨g, cap, cur, h, _⟩
      · omega
      · exact ⟨g, cap, h⟩
    have HO := Lib.hid (own_none hown)
    have HB := Lib.hid hb
    have HRUN := Lib.hid hrun
    clear hown hb hrun h0
    go_enter Tryd.func40, Tryd.ntmps40
    go_wp2_with (at_builtin; refine Lib.wpList_append_run _ rfl (.tmp 20) (.tmp 21) _ _ rfl _ _ rfl rfl _ _ HRUN.out ?_)
    go_ret
    exact ⟨_, rfl, HO.out, HB.out⟩
/-- Where the loops stand. -/
def sz2 (n1 n2 : Nat) : Nat → Nat
  | 0 => 0
  | 1 => n1
  | _ => n1 + n2
def ls2 (l1 l2 : List Nat) : Nat → List Nat
  | 0 => []
  | 1 => l1
  | _ => l1 ++ l2
set_option maxRecDepth 100000 in
set_option maxHeartbeats 2000000 in
theorem concat_any (g0 : Nat) (A1 A2 : Option Addr) (n1 n2 c1 c2 : Nat) (l1 l2 : List Nat) (hn1 : n1 = l1.length) (hn2 : n2 = l2.length) (hb1 : n1 ≤ 40000) (hb2 : n2 ≤ 40000) (w : World) (hg : Bk w g0 25 #[.slice A1 n1 c1, .slice A2 n2 c2]) (hs1 : Seg w A1 (u8s l1)) (hs2 : Seg w A2 (u8s l2)) :
    Calls Tryd.prog 29 #[.slice (some ⟨g0, 0, none⟩) 2 2] w fun e w' => ∃ v, e = .returned v ∧ w'.ownsRow w.heap.size 5 1 v (n1 + n2) (u8s (l1 ++ l2)) ∧ Below w.heap.size w w' := by
  obtain ⟨i0, hi0, hz0, hz1, hz2⟩ := info_parts info5
  have y0 : w.cell? ⟨g0, 0, none⟩ = some (.slice A1 n1 c1) := hg.cell 0
  have y1 : w.cell? ⟨g0, 1, none⟩ = some (.slice A2 n2 c2) := hg.cell 1
  have HG := Lib.hid hg
  have HN1 := Lib.hid hn1
  have HN2 := Lib.hid hn2
  have HS1 := Lib.hid hs1
  have HS2 := Lib.hid hs2
  clear hg hn1 hn2 hs1 hs2
  go_enter Tryd.func29, Tryd.ntmps29
  go_wp2_with fail
  go_loopw [3, 11] (fun s i wr => ∃ k : Nat, k ≤ 2 ∧ i = .int .i64 (k : Int) ∧ s = .int .i64 ((sz2 n1 n2 k : Nat) : Int) ∧ wr = w) (fun _ i _ => 2 - (intOf i).toNat)
  case atStart => exact ⟨0, by omega, rfl, rfl, rfl⟩
  case round =>
    obtain ⟨k, hk, rfl, rfl, hw⟩ := hrel
    have hw := hw.symm
    subst hw
    by_cases hlt : k < 2
    · have hk2 : k = 0 ∨ k = 1 := by omega
      clear hk hlt
      rcases hk2 with rfl | rfl
      · have i1 : ¬ (n1 : Int) < 0 := by omega
        have e1 : sz2 n1 n2 0 = 0 := rfl
        rw [e1]
        go_wp2_with fail
        go_roundw
        case rel => exact ⟨1, by omega, rfl, rfl, trivial⟩
        case measure => simp [intOf]
      · have i1 : ¬ (n1 : Int) + (n2 : Int) < 0 := by omega
        have e1 : sz2 n1 n2 1 = n1 := rfl
        rw [e1]
        go_wp2_with fail
        go_roundw
        case rel => exact ⟨2, by omega, rfl, by show _ = Value.int .i64 ((n1 + n2 : Nat) : Int); rw [Int.natCast_add], trivial⟩
        case measure => simp [intOf]
    · obtain rfl : k = 2 := by omega
      have e1 : sz2 n1 n2 2 = n1 + n2 := rfl
      rw [e1]
      obtain ⟨N, hN⟩ : ∃ N, N = n1 + n2 := ⟨_, rfl⟩
      rw [← hN]
      have hN2 : N ≤ 100000 := by omega
      have C1 := Lib.hid (grow_any N hN2 w)
      clear hN hlt hk
      go_wp2_with fail
      refine C1.out.mono ?_
      rintro e w1 ⟨v1, rfl, hown, hb⟩
      have HO := Lib.hid hown
      have HB := Lib.hid hb
      have HI := Lib.hid HG.out.lt
      clear hown hb C1
      go_wp2_with fail
      go_loopw [6, 27] (fun v i wx => ∃ k : Nat, k ≤ 2 ∧ i = .int .i64 (k : Int) ∧ Hid (wx.ownsRow w.heap.size 5 1 v (sz2 n1 n2 k) (u8s (ls2 l1 l2 k))) ∧ Hid (Below w.heap.size w wx)) (fun _ i _ => 2 - (intOf i).toNat)
      case atStart => exact ⟨0, by omega, rfl, HO, HB⟩
      case round =>
        clear HO HB
        obtain ⟨k, hk, rfl, HO, HB⟩ := hrel
        have hsz := HB.out.size
        by_cases hlt : k < 2
        · have hk2 : k = 0 ∨ k = 1 := by omega
          clear hk hlt
          have z0 : wr.cell? ⟨g0, 0, none⟩ = some (.slice A1 n1 c1) := (HG.out.bel HB.out).cell 0
          have z1 : wr.cell? ⟨g0, 1, none⟩ = some (.slice A2 n2 c2) := (HG.out.bel HB.out).cell 1
          have HT1 := Lib.hid (HS1.out.bel HB.out)
          have HT2 := Lib.hid (HS2.out.bel HB.out)
          rcases hk2 with rfl | rfl
          · go_wp2_with (at_builtin; refine wpList_append_seg _ rfl (.tmp 31) (.tmp 32) _ rfl w.heap.size 5 i0 _ 1 Tryd.underlying25 hi0 hz0 hz1 hz2 rfl _ 0 _ rfl HO.out A1 n1 c1 (u8s l1) rfl (by rw [u8s_length, ← HN1.out]) HT1.out (u8s_one _) (by simp only [maxLen]; omega) (by omega) hsz ?_; intro v' w' hown' hb')
            have HO' := Lib.hid (show w'.ownsRow w.heap.size 5 1 v' (sz2 n1 n2 1) (u8s (ls2 l1 l2 1)) by
              have h1 := hown'
              rw [Nat.zero_add] at h1
              exact h1)
            have HB' := Lib.hid (HB.out.trans hb')
            clear hown' hb'
            go_roundw
            case rel => exact ⟨1, by omega, rfl, HO', HB'⟩
            case measure => simp [intOf]
          · go_wp2_with (at_builtin; refine wpList_append_seg _ rfl (.tmp 31) (.tmp 32) _ rfl w.heap.size 5 i0 _ 1 Tryd.underlying25 hi0 hz0 hz1 hz2 rfl _ n1 _ rfl HO.out A2 n2 c2 (u8s l2) rfl (by rw [u8s_length, ← HN2.out]) HT2.out (u8s_one _) (by simp only [maxLen]; omega) (by omega) hsz ?_; intro v' w' hown' hb')
            have HO' := Lib.hid (show w'.ownsRow w.heap.size 5 1 v' (sz2 n1 n2 2) (u8s (ls2 l1 l2 2)) by
              have h1 := hown'
              rw [show u8s (ls2 l1 l2 1) ++ u8s l2 = u8s (l1 ++ l2) from u8s_appendW l1 l2] at h1
              exact h1)
            have HB' := Lib.hid (HB.out.trans hb')
            clear hown' hb'
            go_roundw
            case rel => exact ⟨2, by omega, rfl, HO', HB'⟩
            case measure => simp [intOf]
        · obtain rfl : k = 2 := by omega
          go_wp2_with fail
          go_ret
          exact ⟨_, rfl, HO.out, HB.out⟩
end Go.Proofs.YtnbhgjionpidnaaDoor
