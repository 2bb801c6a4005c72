/- UtfNames' walk. Condition: the library's tables are laid. -/
import Derived.Test.YtahpiminhlineaaDoorUtfF
import Derived.Test.YtahpiminhlineaaDoorUtfM
namespace Go.Proofs.YtahpiminhlineaaDoor
open Go.RowKit Go.Shelf Go.PlainAid

set_option maxRecDepth 100000 in
set_option maxHeartbeats 1000000 in
theorem names_any (s : ByteArray) (hs : s.size ≤ 9223372036854775807) (w : World) (hT : Tabs w) :
    Calls Tryd.prog 5 #[.string s] w fun e w' => e = .returned (.bool true) ∧ Below w.heap.size w w' := by
  have CF := few_any s hs w
  have htz := fewS_size s
  obtain ⟨t, ht⟩ : ∃ t, t = fewS s := ⟨_, rfl⟩
  rw [← ht] at CF htz
  have HT := Lib.hid hT
  clear hT ht hs
  have CM := Lib.hid (mentions_any t (by omega) w)
  obtain ⟨L, hL⟩ : ∃ L, L = mentL t := ⟨_, rfl⟩
  rw [← hL] at CM
  have hnm : ∀ x ∈ L, nameB x = true ∧ x.size ≤ 400 := fun x hx => by
    rw [hL] at hx
    exact ⟨mentTo_name t _ x hx, Nat.le_trans (mentTo_size t _ x hx) htz⟩
  have hlen : L.length ≤ 400 := by
    rw [hL]
    exact Nat.le_trans (mentTo_len t _) htz
  have HL := Lib.hid hL
  have HNM := Lib.hid hnm
  clear hL hnm
  go_enter Tryd.func5, Tryd.ntmps5
  go_wp2_with fail
  refine CF.mono ?_
  rintro e w0 ⟨rfl, rfl⟩
  go_wp2_with fail
  refine CM.out.mono ?_
  rintro e w1 ⟨⟨v, rfl, hrow⟩, hb1⟩
  obtain ⟨A, c, rfl, hc, hseg⟩ := own_shape hrow
  obtain ⟨n, hn⟩ : ∃ n, n = L.length := ⟨_, rfl⟩
  have HN := Lib.hid hn
  have hn4 : n ≤ 400 := by omega
  rw [← hn]
  have HB1 := Lib.hid hb1
  have HS := Lib.hid hseg
  clear hrow hb1 hseg hn hlen hc
  go_wp2
  go_loopw [12] (fun ix wx => ∃ m : Nat, m ≤ n ∧ ix = .int .i64 m ∧ wx = w1) (fun ix _ => n - (intOf ix).toNat)
  case atStart => exact ⟨0, Nat.zero_le _, rfl, rfl⟩
  case round =>
    obtain ⟨m, hm, rfl, rfl⟩ := hrel
    by_cases hml : m < n
    · have hmL : m < L.length := by have := HN.out; omega
      obtain ⟨b3, o3, hA3, hb3, hc3⟩ := Seg.str HS.out hmL
      subst hA3
      have i1 : (0 : Int) ≤ (m : Int) := by omega
      have i2 : (m : Int) < (n : Int) := by omega
      obtain ⟨q1, q2⟩ := HNM.out _ (List.getElem_mem hmL)
      generalize L[m] = x at *
      go_wp2_with (first | (go_at_call 23; refine (name_any x (by omega) _).mono ?_; rintro e wr ⟨rfl, rfl⟩; rw [q1]) | go_in)
      go_roundw
      case rel => exact ⟨m + 1, by omega, by go_num, trivial⟩
      case measure => simp [intOf]; omega
    · go_wp2_with fail
      refine (awake_any _ (Utf8Tabs_below HT.out HB1.out)).mono ?_
      rintro e w2 ⟨rfl, hb2⟩
      have HB2 := Lib.hid hb2
      clear hb2
      have CR := Lib.hid (rment_any t (by omega) w2)
      rw [← HL.out] at CR
      go_wp2_with (first
        | (go_at_call 23; refine (name_any t (by omega) _).mono ?_; rintro e wr ⟨rfl, rfl⟩)
        | (go_at_call 24; refine (rname_any t (by omega) _).mono ?_; rintro e wr ⟨rfl, rfl⟩)
        | fail)
      refine CR.out.mono ?_
      rintro e w3 ⟨⟨v, rfl, hrow3⟩, hb3⟩
      obtain ⟨A3, c3, rfl, hc3, hseg3⟩ := own_shape hrow3
      rw [← HN.out] at hrow3 ⊢
      have HS3 := Lib.hid hseg3
      have HB3 := Lib.hid hb3
      clear hrow3 hseg3 hb3 CR
      go_wp2_with fail
      refine (same_any L _ _ n _ _ HN.out (by omega) w3 ((HS.out.bel HB2.out).bel HB3.out) HS3.out).mono ?_
      rintro e w4 ⟨rfl, hb4⟩
      have HB4 := Lib.hid (below_step (below_step (below_step HB1.out HB2.out) HB3.out) hb4)
      clear hb4
      go_wp2
      go_ret
      exact ⟨rfl, HB4.out⟩
end Go.Proofs.YtahpiminhlineaaDoor
