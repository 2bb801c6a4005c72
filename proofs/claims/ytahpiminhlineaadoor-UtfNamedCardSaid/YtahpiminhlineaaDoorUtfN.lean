/- UtfNamed's walk. Condition: the library's tables are laid. -/
import Derived.Test.YtahpiminhlineaaDoorUtfG
namespace Go.Proofs.YtahpiminhlineaaDoor
open Go.RowKit Go.Shelf Go.PlainAid

set_option maxRecDepth 100000 in
set_option maxHeartbeats 1000000 in
theorem named_long (a x b : ByteArray) (ha : a.size ≤ 9223372036854775807) (hx : x.size ≤ 9223372036854775807) (hb : b.size ≤ 9223372036854775807) (h : 200 < a.size ∨ 200 < b.size ∨ 40 < x.size) (w : World) (hT : Tabs w) :
    Calls Tryd.prog 8 #[.string a, .string x, .string b] w fun e w' => e = .returned (.bool true) ∧ Below w.heap.size w w' := by
  have CA := Lib.hid (awake_any w hT)
  clear hT
  by_cases h1 : 200 < a.size
  · have h1' : (200 : Int) < (a.size : Int) := by omega
    clear h
    go_enter Tryd.func8, Tryd.ntmps8
    go_wp2_with fail
    refine CA.out.mono ?_
    rintro e w1 ⟨rfl, hb1⟩
    have HB := Lib.hid hb1
    go_wp2
    go_ret
    exact ⟨rfl, HB.out⟩
  · have h1' : ¬ (200 : Int) < (a.size : Int) := by omega
    by_cases h2 : 200 < b.size
    · have h2' : (200 : Int) < (b.size : Int) := by omega
      clear h
      go_enter Tryd.func8, Tryd.ntmps8
      go_wp2_with fail
      refine CA.out.mono ?_
      rintro e w1 ⟨rfl, hb1⟩
      have HB := Lib.hid hb1
      go_wp2
      go_ret
      exact ⟨rfl, HB.out⟩
    · have h2' : ¬ (200 : Int) < (b.size : Int) := by omega
      have h3 : (40 : Int) < (x.size : Int) := by omega
      clear h
      go_enter Tryd.func8, Tryd.ntmps8
      go_wp2_with fail
      refine CA.out.mono ?_
      rintro e w1 ⟨rfl, hb1⟩
      have HB := Lib.hid hb1
      go_wp2
      go_ret
      exact ⟨rfl, HB.out⟩
set_option maxRecDepth 100000 in
set_option maxHeartbeats 1000000 in
theorem named_short (a x b : ByteArray) (h1 : a.size ≤ 200) (h2 : b.size ≤ 200) (h3 : x.size ≤ 40) (w : World) (hT : Tabs w) :
    Calls Tryd.prog 8 #[.string a, .string x, .string b] w fun e w' => e = .returned (.bool true) ∧ Below w.heap.size w w' := by
  have HT := Lib.hid hT
  have hz := namedS_size a x b
  have a1 := fun w => run_string_add_sum (P := Tryd.prog) w a ⟨#[32, 64]⟩ (by show a.size + 2 ≤ _; omega)
  have a2 := fun w => run_string_add_sum (P := Tryd.prog) w (a ++ ⟨#[32, 64]⟩) x (by rw [ByteArray.size_append]; show a.size + 2 + x.size ≤ _; omega)
  have a3 := fun w => run_string_add_sum (P := Tryd.prog) w (a ++ ⟨#[32, 64]⟩ ++ x) ⟨#[32]⟩ (by rw [ByteArray.size_append, ByteArray.size_append]; show a.size + 2 + x.size + 1 ≤ _; omega)
  have a4 := fun w => run_string_add_sum (P := Tryd.prog) w (a ++ ⟨#[32, 64]⟩ ++ x ++ ⟨#[32]⟩) b (by rw [ByteArray.size_append, ByteArray.size_append, ByteArray.size_append]; show a.size + 2 + x.size + 1 + b.size ≤ _; omega)
  have ht : a ++ ⟨#[32, 64]⟩ ++ x ++ ⟨#[32]⟩ ++ b = namedS a x b := rfl
  have hme := named_eq a x b
  obtain ⟨t, htt⟩ : ∃ t, t = namedS a x b := ⟨_, rfl⟩
  rw [← htt] at ht hz hme
  rw [ht] at a4
  have CM := Lib.hid (mentions_any t (by omega) w)
  obtain ⟨L, hL⟩ : ∃ L, L = mentL t := ⟨_, rfl⟩
  rw [← hL] at CM hme
  have hlen : L.length ≤ 1000 := by
    rw [hL]
    exact Nat.le_trans (mentTo_len t _) (by omega)
  have HME := Lib.hid hme
  have g1 : ¬ (200 : Int) < (a.size : Int) := by omega
  have g2 : ¬ (200 : Int) < (b.size : Int) := by omega
  have g3 : ¬ (40 : Int) < (x.size : Int) := by omega
  clear hL hT ht hz hme htt
  go_enter Tryd.func8, Tryd.ntmps8
  go_wp2_with fail
  refine CM.out.mono ?_
  rintro e w1 ⟨⟨v, rfl, hrow⟩, hb1⟩
  obtain ⟨A, c, rfl, hc, hseg⟩ := own_shape hrow
  obtain ⟨n, hn⟩ : ∃ n, n = L.length := ⟨_, rfl⟩
  have HN := Lib.hid hn
  have hn4 : n ≤ 1000 := by omega
  rw [← hn]
  have HB1 := Lib.hid hb1
  have HS := Lib.hid hseg
  clear hrow hb1 hseg hn hlen hc CM a1 a2 a3 a4
  go_wp2
  go_loopw [7, 33] (fun fr ix wx => ∃ (m : Nat) (f : Bool), m ≤ n ∧ ix = .int .i64 m ∧ fr = .bool f ∧ Hid (f = memB x (L.take m)) ∧ wx = w1) (fun _ ix _ => n - (intOf ix).toNat)
  case atStart => exact ⟨0, false, Nat.zero_le _, rfl, rfl, Lib.hid (by simp [memB]), rfl⟩
  case round =>
    obtain ⟨m, f, hm, rfl, rfl, HF, rfl⟩ := hrel
    by_cases hml : m < n
    · have hmL : m < L.length := by have := HN.out; omega
      obtain ⟨b3, o3, hA3, hb3, hc3⟩ := Seg.str HS.out hmL
      subst hA3
      have i1 : (0 : Int) ≤ (m : Int) := by omega
      have i2 : (m : Int) < (n : Int) := by omega
      have HT1 := Lib.hid (memB_take (wd := x) hmL)
      cases f
      · have hbe : (L[m].toList == x.toList) = decide (L[m] = x) := beq_of _ _
        have HF2 := Lib.hid (show decide (L[m] = x) = memB x (L.take (m + 1)) by rw [HT1.out, ← HF.out]; rfl)
        generalize L[m] = y at *
        obtain ⟨g, hg⟩ : ∃ g, g = decide (y = x) := ⟨_, rfl⟩
        rw [← hg] at hbe HF2
        clear hg
        go_wp2
        go_roundw
        case rel => exact ⟨m + 1, g, by omega, by go_num, rfl, HF2, trivial⟩
        case measure => simp [intOf]; omega
      · have HF2 := Lib.hid (show true = memB x (L.take (m + 1)) by rw [HT1.out, ← HF.out]; rfl)
        generalize L[m] = y at *
        go_wp2
        go_roundw
        case rel => exact ⟨m + 1, true, by omega, by go_num, rfl, HF2, trivial⟩
        case measure => simp [intOf]; omega
    · have HE := Lib.hid (show f = nameB x by rw [HF.out, List.take_of_length_le (by have := HN.out; omega), HME.out])
      go_wp2_with fail
      refine (awake_any _ (Utf8Tabs_below HT.out HB1.out)).mono ?_
      rintro e w2 ⟨rfl, hb2⟩
      have HB2 := Lib.hid (below_step HB1.out hb2)
      clear hb2
      obtain ⟨g, hg⟩ : ∃ g, g = nameB x := ⟨_, rfl⟩
      have hfg : f = g := by rw [HE.out, hg]
      have HG := Lib.hid hg
      clear hg
      subst hfg
      cases f
      · go_wp2_with (first | (go_at_call 23; refine (name_any x (by omega) _).mono ?_; rintro e wr ⟨rfl, rfl⟩; rw [← HG.out]) | go_in)
        go_ret
        exact ⟨rfl, HB2.out⟩
      · go_wp2_with (first | (go_at_call 23; refine (name_any x (by omega) _).mono ?_; rintro e wr ⟨rfl, rfl⟩; rw [← HG.out]) | go_in)
        go_ret
        exact ⟨rfl, HB2.out⟩
theorem named_any (a x b : ByteArray) (ha : a.size ≤ 9223372036854775807) (hx : x.size ≤ 9223372036854775807) (hb : b.size ≤ 9223372036854775807) (w : World) (hT : Tabs w) :
    Calls Tryd.prog 8 #[.string a, .string x, .string b] w fun e w' => e = .returned (.bool true) ∧ Below w.heap.size w w' := by
  by_cases h : 200 < a.size ∨ 200 < b.size ∨ 40 < x.size
  · exact named_long a x b ha hx hb h w hT
  · exact named_short a x b (by omega) (by omega) (by omega) w hT
end Go.Proofs.YtahpiminhlineaaDoor
