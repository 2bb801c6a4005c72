/- The reference's number: the same groups of seven bits, in a row of its own. No condition. -/
import Derived.Test.YtgifbjomaenlnaaWNum
namespace Go.Proofs.Ytgifbjomaenlnaa
open Go.RowKit

set_option maxRecDepth 100000 in
theorem rnumber_any (z : Int) (hz : inI z) (w : World) :
    Calls Try.prog 27 #[.int .i64 z] w fun e w' => ∃ v', e = .returned v' ∧ w'.ownsRow w.heap.size 5 1 v' (numN z).length (u8s (numN z)) ∧ Below w.heap.size w w' := by
  obtain ⟨i0, hi0, hz0, hz1, hz2⟩ := info_parts info5
  obtain ⟨h1, h2⟩ := hz
  have hU := zigN_lt (n := z) ⟨h1, h2⟩
  obtain ⟨W0, hW0⟩ : ∃ W0, W0 = w := ⟨_, rfl⟩
  have hst : NuR w.heap.size 0 [] (zigN z) (w.alloc (.cells #[] 5)) (.slice (some ⟨w.heap.size, 0, none⟩) 0 0) (zigN z) (.slice (some ⟨w.heap.size, 0, none⟩) 0 0) (w.alloc (.cells #[] 5)) := ⟨9, [], by have : (128 : Nat) ^ (9 + 1) = 1180591620717411303424 := rfl; omega, Nat.le_refl _, by simp, rfl, World.ownsRow_lit w #[] 0 (by omega) (by decide) rfl, Below.refl _ _, Gr.refl _ _⟩
  have HS := Lib.hid hst
  have HB0 := Lib.hid ((Below.refl w.heap.size w).alloc (Nat.le_refl _) (.cells #[] 5))
  have hzg : zigN z < 18446744073709551616 := hU
  unfold numN
  clear hst
  by_cases hneg : 0 ≤ z
  · have p : IntKind.u64.wrap (2 * IntKind.u64.wrap z) = ((zigN z : Nat) : Int) := by rw [IntKind.wrap_u64, IntKind.wrap_u64]; unfold zigN; rw [if_neg (by omega)]; omega
    have p2 : 2 * z = ((zigN z : Nat) : Int) := by unfold zigN; rw [if_neg (by omega)]; omega
    have hn0 : ¬ z < 0 := by omega
    generalize zigN z = U at *
    go_enter Try.func27, Try.ntmps27
    go_wp2_with fail
    go_loopw [3, 4] (fun u v wr => ∃ y : Nat, u = .int .u64 (y : Int) ∧ y < 18446744073709551616 ∧ NuR w.heap.size 0 [] U (w.alloc (.cells #[] 5)) (.slice (some ⟨w.heap.size, 0, none⟩) 0 0) y v wr) (fun u _ _ => (intOf u).toNat)
    case atStart => exact ⟨U, rfl, hU, HS.out⟩
    case round =>
      clear HS
      obtain ⟨y, rfl, hy, f, done, hyf, hf, hdl, hd, hown, hbw, hgr⟩ := hrel
      obtain ⟨A2, c2, rfl, hc2, _⟩ := own_shape hown
      have HO := Lib.hid hown
      have HB := Lib.hid hbw
      have HGr := Lib.hid hgr
      have HSZ := Lib.hid (show w.heap.size + 1 ≤ wr.heap.size by have := hbw.size; rw [World.size_alloc] at this; exact this)
      have HD := Lib.hid hd
      clear hown hbw hd hgr
      by_cases h128 : 128 ≤ y
      · rcases f with _ | f
        · simp at hyf; omega
        have hst : varF (f + 1) y = (y % 128 + 128) :: varF f (y / 128) := by show (if y < 128 then [y] else (y % 128 + 128) :: varF f (y / 128)) = _; rw [if_neg (by omega)]
        have HD2 := Lib.hid (show (done ++ [y % 128 + 128]) ++ varF f (y / 128) = varF 9 U by rw [← HD.out, hst]; simp)
        have hyq : y / 128 < 128 ^ (f + 1) := by rw [Nat.pow_succ] at hyf; omega
        have HYQ := Lib.hid hyq
        have i1 : (128 : Int) ≤ (y : Int) := by omega
        clear hst hyf hyq HD
        go_wp2_with (at_builtin; refine wpList_append_own_at _ rfl (.tmp 19) (.tmp 24) 26 rfl w.heap.size 5 i0 (.int .u8 0) 1 1 Try.underlying26 hi0 hz0 hz1 hz2 rfl (by decide) (.slice A2 (0 + done.length) c2) (0 + done.length) _ rfl (own_alloc HO.out _) ⟨wr.heap.size, 0, none⟩ 1 1 [.int .u8 ((y : Int) % 128 + 128)] rfl rfl (cell_one_new _ _ _) (by simp [Value.oneCell']) (by simp only [maxLen]; omega) (by omega) (by simp only [World.size_alloc]; have := HSZ.out; omega) ?_; intro v' w' hown' hgrow' _ hat'; have hb' := (Below.refl w.heap.size _).grown hgrow' (by simp only [World.size_alloc]; have := HSZ.out; omega) (fun j e => (HO.out.lt j e).1); have hg' := Lib.hid ((HGr.out.alloc _).app hgrow' hat'))
        have HN := Lib.hid (show NuR w.heap.size 0 [] U (w.alloc (.cells #[] 5)) (.slice (some ⟨w.heap.size, 0, none⟩) 0 0) (y / 128) v' w' from ⟨f, done ++ [y % 128 + 128], HYQ.out, by omega, by simp; omega, HD2.out, by
          rw [List.length_append, List.length_singleton, show u8s (done ++ [y % 128 + 128]) = u8s done ++ [Value.int .u8 ((y : Int) % 128 + 128)] by simp [u8s], ← List.append_assoc]
          exact hown', (HB.out.alloc (by have := HSZ.out; omega) _).trans hb', hg'.out⟩)
        clear hown' hb' hg' hgrow' hat'
        go_roundw
        case rel => exact ⟨y / 128, by simp, by omega, HN.out⟩
        case measure => simp [intOf]; omega
      · have hst : varF f y = [y] := by
          cases f with
          | zero => rfl
          | succ f => unfold varF; rw [if_pos (by omega)]
        have HD2 := Lib.hid (show done ++ [y] = varF 9 U by rw [← HD.out, hst])
        have i1 : ¬ (128 : Int) ≤ (y : Int) := by omega
        clear hst hyf HD
        go_wp2_with (at_builtin; refine wpList_append_own_at _ rfl (.tmp 28) (.tmp 31) 26 rfl w.heap.size 5 i0 (.int .u8 0) 1 1 Try.underlying26 hi0 hz0 hz1 hz2 rfl (by decide) (.slice A2 (0 + done.length) c2) (0 + done.length) _ rfl (own_alloc HO.out _) ⟨wr.heap.size, 0, none⟩ 1 1 [.int .u8 (y : Int)] rfl rfl (cell_one_new _ _ _) (by simp [Value.oneCell']) (by simp only [maxLen]; omega) (by omega) (by simp only [World.size_alloc]; have := HSZ.out; omega) ?_; intro v' w' hown' hgrow' _ hat'; have hb' := (Below.refl w.heap.size _).grown hgrow' (by simp only [World.size_alloc]; have := HSZ.out; omega) (fun j e => (HO.out.lt j e).1); have hg' := Lib.hid ((HGr.out.alloc _).app hgrow' hat'))
        have HN := Lib.hid (show w'.ownsRow w.heap.size 5 1 v' (varF 9 U).length (u8s (varF 9 U)) by
          rw [← HD2.out, List.length_append, List.length_singleton, show u8s (done ++ [y]) = u8s done ++ [Value.int .u8 (y : Int)] by simp [u8s]]
          have hh := hown'
          rw [Nat.zero_add, List.nil_append] at hh
          exact hh)
        have HB2 := Lib.hid (HB0.out.trans ((HB.out.alloc (by have := HSZ.out; omega) (.cells #[.int .u8 (y : Int)] 5)).trans hb'))
        clear hown' hb' hgrow' hat'
        go_ret
        exact ⟨v', rfl, HN.out, HB2.out⟩
  · have p : 2 * -(z + 1) + 1 = ((zigN z : Nat) : Int) := by unfold zigN; rw [if_pos (by omega)]; omega
    have hn0 : z < 0 := by omega
    generalize zigN z = U at *
    go_enter Try.func27, Try.ntmps27
    go_wp2_with fail
    go_loopw [3, 4] (fun u v wr => ∃ y : Nat, u = .int .u64 (y : Int) ∧ y < 18446744073709551616 ∧ NuR w.heap.size 0 [] U (w.alloc (.cells #[] 5)) (.slice (some ⟨w.heap.size, 0, none⟩) 0 0) y v wr) (fun u _ _ => (intOf u).toNat)
    case atStart => exact ⟨U, rfl, hU, HS.out⟩
    case round =>
      clear HS
      obtain ⟨y, rfl, hy, f, done, hyf, hf, hdl, hd, hown, hbw, hgr⟩ := hrel
      obtain ⟨A2, c2, rfl, hc2, _⟩ := own_shape hown
      have HO := Lib.hid hown
      have HB := Lib.hid hbw
      have HGr := Lib.hid hgr
      have HSZ := Lib.hid (show w.heap.size + 1 ≤ wr.heap.size by have := hbw.size; rw [World.size_alloc] at this; exact this)
      have HD := Lib.hid hd
      clear hown hbw hd hgr
      by_cases h128 : 128 ≤ y
      · rcases f with _ | f
        · simp at hyf; omega
        have hst : varF (f + 1) y = (y % 128 + 128) :: varF f (y / 128) := by show (if y < 128 then [y] else (y % 128 + 128) :: varF f (y / 128)) = _; rw [if_neg (by omega)]
        have HD2 := Lib.hid (show (done ++ [y % 128 + 128]) ++ varF f (y / 128) = varF 9 U by rw [← HD.out, hst]; simp)
        have hyq : y / 128 < 128 ^ (f + 1) := by rw [Nat.pow_succ] at hyf; omega
        have HYQ := Lib.hid hyq
        have i1 : (128 : Int) ≤ (y : Int) := by omega
        clear hst hyf hyq HD
        go_wp2_with (at_builtin; refine wpList_append_own_at _ rfl (.tmp 19) (.tmp 24) 26 rfl w.heap.size 5 i0 (.int .u8 0) 1 1 Try.underlying26 hi0 hz0 hz1 hz2 rfl (by decide) (.slice A2 (0 + done.length) c2) (0 + done.length) _ rfl (own_alloc HO.out _) ⟨wr.heap.size, 0, none⟩ 1 1 [.int .u8 ((y : Int) % 128 + 128)] rfl rfl (cell_one_new _ _ _) (by simp [Value.oneCell']) (by simp only [maxLen]; omega) (by omega) (by simp only [World.size_alloc]; have := HSZ.out; omega) ?_; intro v' w' hown' hgrow' _ hat'; have hb' := (Below.refl w.heap.size _).grown hgrow' (by simp only [World.size_alloc]; have := HSZ.out; omega) (fun j e => (HO.out.lt j e).1); have hg' := Lib.hid ((HGr.out.alloc _).app hgrow' hat'))
        have HN := Lib.hid (show NuR w.heap.size 0 [] U (w.alloc (.cells #[] 5)) (.slice (some ⟨w.heap.size, 0, none⟩) 0 0) (y / 128) v' w' from ⟨f, done ++ [y % 128 + 128], HYQ.out, by omega, by simp; omega, HD2.out, by
          rw [List.length_append, List.length_singleton, show u8s (done ++ [y % 128 + 128]) = u8s done ++ [Value.int .u8 ((y : Int) % 128 + 128)] by simp [u8s], ← List.append_assoc]
          exact hown', (HB.out.alloc (by have := HSZ.out; omega) _).trans hb', hg'.out⟩)
        clear hown' hb' hg' hgrow' hat'
        go_roundw
        case rel => exact ⟨y / 128, by simp, by omega, HN.out⟩
        case measure => simp [intOf]; omega
      · have hst : varF f y = [y] := by
          cases f with
          | zero => rfl
          | succ f => unfold varF; rw [if_pos (by omega)]
        have HD2 := Lib.hid (show done ++ [y] = varF 9 U by rw [← HD.out, hst])
        have i1 : ¬ (128 : Int) ≤ (y : Int) := by omega
        clear hst hyf HD
        go_wp2_with (at_builtin; refine wpList_append_own_at _ rfl (.tmp 28) (.tmp 31) 26 rfl w.heap.size 5 i0 (.int .u8 0) 1 1 Try.underlying26 hi0 hz0 hz1 hz2 rfl (by decide) (.slice A2 (0 + done.length) c2) (0 + done.length) _ rfl (own_alloc HO.out _) ⟨wr.heap.size, 0, none⟩ 1 1 [.int .u8 (y : Int)] rfl rfl (cell_one_new _ _ _) (by simp [Value.oneCell']) (by simp only [maxLen]; omega) (by omega) (by simp only [World.size_alloc]; have := HSZ.out; omega) ?_; intro v' w' hown' hgrow' _ hat'; have hb' := (Below.refl w.heap.size _).grown hgrow' (by simp only [World.size_alloc]; have := HSZ.out; omega) (fun j e => (HO.out.lt j e).1); have hg' := Lib.hid ((HGr.out.alloc _).app hgrow' hat'))
        have HN := Lib.hid (show w'.ownsRow w.heap.size 5 1 v' (varF 9 U).length (u8s (varF 9 U)) by
          rw [← HD2.out, List.length_append, List.length_singleton, show u8s (done ++ [y]) = u8s done ++ [Value.int .u8 (y : Int)] by simp [u8s]]
          have hh := hown'
          rw [Nat.zero_add, List.nil_append] at hh
          exact hh)
        have HB2 := Lib.hid (HB0.out.trans ((HB.out.alloc (by have := HSZ.out; omega) (.cells #[.int .u8 (y : Int)] 5)).trans hb'))
        clear hown' hb' hgrow' hat'
        go_ret
        exact ⟨v', rfl, HN.out, HB2.out⟩
end Go.Proofs.Ytgifbjomaenlnaa
