/- What is read of a text: guess and Read. Conditions: the text is not huge; the library's table and errors are laid. -/
import Derived.Test.YtjlkmfnkpnmbiaaDoorWhG
namespace Go.Proofs.YtjlkmfnkpnmbiaaDoor
open Go.RowKit Go.Shelf

theorem beq_toList (y x : ByteArray) : (y.toList == x.toList) = decide (y = x) := by
  by_cases h : y = x
  · subst h; simp
  · have h1 : ¬ y.toList = x.toList := fun e => by
      rw [ByteArray.toList_eq, ByteArray.toList_eq] at e
      exact h (ByteArray.ext (Array.toList_inj.1 e))
    rw [beq_eq_false_iff_ne.2 h1]
    simp [h]

set_option maxRecDepth 100000 in
set_option maxHeartbeats 2000000 in
/-- The program's Find. -/
theorem beq_lit (y : ByteArray) (l : List UInt8) : (y.toList == l) = decide (y = ⟨l.toArray⟩) := by
  rw [← beq_toList, show (⟨l.toArray⟩ : ByteArray).toList = l by rw [ByteArray.toList_eq]]
theorem guess_nan_any (w : World) :
    Calls Tryd.prog 49 #[.string ⟨#[110, 97, 110]⟩] w fun e w' => e = .returned (.tuple #[.float .f64 9221120237041090561, .bool true]) ∧ w = w' := by
  go_enter Tryd.func49, Tryd.ntmps49
  go_wp2_with (go_at_call 55; refine (nan_any _).mono ?_; rintro e w' ⟨rfl, rfl⟩)
  go_ret2
  exact ⟨rfl, rfl⟩
theorem guess_inf_any (w : World) :
    Calls Tryd.prog 49 #[.string ⟨#[105, 110, 102]⟩] w fun e w' => e = .returned (.tuple #[.float .f64 9218868437227405312, .bool true]) ∧ w = w' := by
  go_enter Tryd.func49, Tryd.ntmps49
  go_wp2_with (go_at_call 56; refine (inf_pos _).mono ?_; rintro e w' ⟨rfl, rfl⟩)
  go_ret2
  exact ⟨rfl, rfl⟩
theorem guess_minf_any (w : World) :
    Calls Tryd.prog 49 #[.string ⟨#[45, 105, 110, 102]⟩] w fun e w' => e = .returned (.tuple #[.float .f64 18442240474082181120, .bool true]) ∧ w = w' := by
  go_enter Tryd.func49, Tryd.ntmps49
  go_wp2_with (go_at_call 56; refine (inf_neg _).mono ?_; rintro e w' ⟨rfl, rfl⟩)
  go_ret2
  exact ⟨rfl, rfl⟩
theorem guess_mz_any (w : World) :
    Calls Tryd.prog 49 #[.string ⟨#[45, 48]⟩] w fun e w' => e = .returned (.tuple #[.float .f64 9223372036854775808, .bool true]) ∧ w = w' := by
  go_enter Tryd.func49, Tryd.ntmps49
  go_wp2_with (go_at_call 57; refine (copysign_mz _).mono ?_; rintro e w' ⟨rfl, rfl⟩)
  go_ret2
  exact ⟨rfl, rfl⟩
set_option maxHeartbeats 1000000 in
set_option maxRecDepth 100000 in
theorem guess_tilde_any (r : List UInt8) (hs : r.length ≤ 281474976710655) (w : World) (hE : Errs w) :
    Calls Tryd.prog 49 #[.string ⟨(126 :: r).toArray⟩] w fun e w' => ∃ x ok, e = .returned (.tuple #[.float .f64 x, .bool ok]) ∧ GuessP ⟨(126 :: r).toArray⟩ x ok ∧ Below w.heap.size w w' := by
  obtain ⟨s, hsE⟩ : ∃ s : ByteArray, s = ⟨(126 :: r).toArray⟩ := ⟨_, rfl⟩
  rw [← hsE]
  have hsz : s.size = r.length + 1 := by rw [hsE]; show (126 :: r).toArray.size = _; simp
  have n1 : (s.toList == [110, 97, 110]) = false := by rw [beq_lit s [110, 97, 110], hsE]; exact decide_eq_false (ba_ne (b := [110, 97, 110]) (by simp))
  have n2 : (s.toList == [105, 110, 102]) = false := by rw [beq_lit s [105, 110, 102], hsE]; exact decide_eq_false (ba_ne (b := [105, 110, 102]) (by simp))
  have n3 : (s.toList == [45, 105, 110, 102]) = false := by rw [beq_lit s [45, 105, 110, 102], hsE]; exact decide_eq_false (ba_ne (b := [45, 105, 110, 102]) (by simp))
  have n4 : (s.toList == [45, 48]) = false := by rw [beq_lit s [45, 48], hsE]; exact decide_eq_false (ba_ne (b := [45, 48]) (by simp))
  have hpos : 0 < s.size := by omega
  have hix : ∀ w' : World, (Instr.index 9 (.string s) (.int .i64 0)).run Tryd.prog w' = .ok (.int .u8 126) w' := fun w' => by
    rw [run_index_string w' 9 s .i64 0 Tryd.underlying9, dif_pos (by omega)]
    subst hsE; rfl
  have hsl : ∀ w' : World, (Instr.slice 9 (.string s) (some (.int .i64 1)) none none).run Tryd.prog w' = .ok (.string ⟨r.toArray⟩) w' := fun w' => by
    rw [run_slice_string_l w' 9 s Tryd.underlying9 .i64 1 (by omega) (by omega)]
    congr 2
    subst hsE
    apply ByteArray.ext
    rw [ByteArray.data_extract]
    apply Array.toList_inj.1
    simp [show (1 : Int).toNat = 1 from rfl, List.take_of_length_le, ByteArray.size]
  have HC := Lib.hid (parse_any ⟨r.toArray⟩ (by show r.toArray.size ≤ _; simp; omega) w hE)
  have hfb := run_frombits
  have HG : Hid (∀ (u : Nat) (v : Value), ParseR ⟨r.toArray⟩ u v → (v = .nilIface ∧ GuessP s u true) ∨ ((∃ t p, v = .iface t p) ∧ GuessP s u false)) := Lib.hid (by
    intro u v ⟨hu, h⟩
    rw [hsE]
    rcases h with ⟨h1, h2⟩ | ⟨h1, h2⟩
    · exact Or.inl ⟨h2, guess_tilde_ok h1⟩
    · exact Or.inr ⟨h1, guess_tilde_no h2 hu⟩)
  have hsb : (s.size : Int) ≤ 281474976710656 := by omega
  clear hsE hsz hs hE
  go_enter Tryd.func49, Tryd.ntmps49
  go_wp2_with (go_at_call 58; refine HC.out.mono ?_; rintro e w1 ⟨u, v, rfl, hP, hb1⟩)
  have hu := Lib.hid hP.1
  have hG2 := HG.out u v hP
  clear hP
  rcases hG2 with ⟨rfl, hg⟩ | ⟨⟨t, p, rfl⟩, hg⟩
  · have HGG := Lib.hid hg
    clear hg
    go_wp2
    go_quiet (fail)
    go_wp2
    go_ret2
    exact ⟨_, _, rfl, HGG.out, below_drewN hb1 _⟩
  · have HGG := Lib.hid hg
    clear hg
    go_wp2
    go_quiet (fail)
    go_wp2
    go_ret2
    exact ⟨_, _, rfl, HGG.out, below_drewN hb1 _⟩
theorem float_lt (n : Int) : floatOfInt .f64 n < 18446744073709551616 := by
  rw [wrote]
  have h := Ieee.Format.write_lt Ieee.double (.number (decide (n < 0)) n.natAbs 0)
  rw [show (2 : Nat) ^ Ieee.double.width = 18446744073709551616 by decide] at h
  exact h
set_option maxHeartbeats 1000000 in
set_option maxRecDepth 100000 in
theorem guess_other_any (l : List UInt8) (hs : l.length ≤ 281474976710656) (hl : ∀ r, l ≠ 126 :: r) (c1 : l ≠ [110, 97, 110]) (c2 : l ≠ [105, 110, 102]) (c3 : l ≠ [45, 105, 110, 102]) (c4 : l ≠ [45, 48]) (w : World) (hE : Errs w) :
    Calls Tryd.prog 49 #[.string ⟨l.toArray⟩] w fun e w' => ∃ x ok, e = .returned (.tuple #[.float .f64 x, .bool ok]) ∧ GuessP ⟨l.toArray⟩ x ok ∧ Below w.heap.size w w' := by
  obtain ⟨s, hsE⟩ : ∃ s : ByteArray, s = ⟨l.toArray⟩ := ⟨_, rfl⟩
  rw [← hsE]
  have hsz : s.size = l.length := by rw [hsE]; show l.toArray.size = _; simp
  have n1 : (s.toList == [110, 97, 110]) = false := by rw [beq_lit s [110, 97, 110], hsE]; exact decide_eq_false (ba_ne (b := [110, 97, 110]) c1)
  have n2 : (s.toList == [105, 110, 102]) = false := by rw [beq_lit s [105, 110, 102], hsE]; exact decide_eq_false (ba_ne (b := [105, 110, 102]) c2)
  have n3 : (s.toList == [45, 105, 110, 102]) = false := by rw [beq_lit s [45, 105, 110, 102], hsE]; exact decide_eq_false (ba_ne (b := [45, 105, 110, 102]) c3)
  have n4 : (s.toList == [45, 48]) = false := by rw [beq_lit s [45, 48], hsE]; exact decide_eq_false (ba_ne (b := [45, 48]) c4)
  have HC := Lib.hid (atoi_any s (by omega) w hE)
  have HG : Hid (∀ (n : Int) (v : Value), AtoiR s n v → (v = .nilIface ∧ GuessP s (floatOfInt .f64 n) true) ∨ ((∃ t p, v = .iface t p) ∧ GuessP s (floatOfInt .f64 n) false)) := Lib.hid (by
    intro n v ⟨hn0, hn1, h⟩
    rw [hsE] at h ⊢
    rcases h with ⟨h1, h2⟩ | ⟨h1, h2⟩
    · refine Or.inl ⟨h2, ?_⟩
      rcases guess_int hl c1 c2 c3 c4 (n := n) (ok := true) (Or.inl ⟨by simpa using h1, rfl⟩) with h | h
      · exact h
      · exact absurd (float_lt n) h
    · refine Or.inr ⟨h1, ?_⟩
      rcases guess_int hl c1 c2 c3 c4 (n := n) (ok := false) (Or.inr ⟨rfl, by simpa using h2⟩) with h | h
      · exact h
      · exact absurd (float_lt n) h)
  have hof := run_of_int
  have hsb : (s.size : Int) ≤ 281474976710656 := by omega
  by_cases h0 : l = []
  · have hs0 : (s.size : Int) = 0 := by rw [hsz, h0]; rfl
    clear hsE hsz hs hE n1 n2 n3 n4 hl c1 c2 c3 c4
    have n1 : (s.toList == [110, 97, 110]) = false := by
      have : s = ByteArray.empty := by apply ByteArray.ext; apply Array.eq_empty_of_size_eq_zero; show s.size = 0; omega
      subst this; decide +kernel
    have n2 : (s.toList == [105, 110, 102]) = false := by
      have : s = ByteArray.empty := by apply ByteArray.ext; apply Array.eq_empty_of_size_eq_zero; show s.size = 0; omega
      subst this; decide +kernel
    have n3 : (s.toList == [45, 105, 110, 102]) = false := by
      have : s = ByteArray.empty := by apply ByteArray.ext; apply Array.eq_empty_of_size_eq_zero; show s.size = 0; omega
      subst this; decide +kernel
    have n4 : (s.toList == [45, 48]) = false := by
      have : s = ByteArray.empty := by apply ByteArray.ext; apply Array.eq_empty_of_size_eq_zero; show s.size = 0; omega
      subst this; decide +kernel
    clear h0
    go_enter Tryd.func49, Tryd.ntmps49
    go_wp2_with fail
    refine HC.out.mono ?_
    rintro e w1 ⟨n, v, rfl, hP, hb1⟩
    have hG2 := HG.out n v hP
    clear hP
    rcases hG2 with ⟨rfl, hg⟩ | ⟨⟨t, p, rfl⟩, hg⟩
    all_goals
      have HGG := Lib.hid hg
      clear hg
      go_wp2
      go_quiet (fail)
      go_wp2
      go_ret2
      exact ⟨_, _, rfl, HGG.out, below_drewN hb1 _⟩
  · obtain ⟨c, r, hcr⟩ : ∃ c r, l = c :: r := by
      cases l with
      | nil => exact absurd rfl h0
      | cons c r => exact ⟨c, r, rfl⟩
    have hc : ¬ c.toNat = 126 := fun e => hl r (by rw [hcr, show c = 126 from UInt8.toNat_inj.1 e])
    have hpos : 0 < s.size := by rw [hsz, hcr]; simp
    have hix : ∀ w' : World, (Instr.index 9 (.string s) (.int .i64 0)).run Tryd.prog w' = .ok (.int .u8 (c.toNat : Int)) w' := fun w' => by
      rw [run_index_string w' 9 s .i64 0 Tryd.underlying9, dif_pos (by omega)]
      subst hsE; subst hcr; rfl
    obtain ⟨d, hd⟩ : ∃ d, d = c.toNat := ⟨_, rfl⟩
    rw [← hd] at hix hc
    have hdd : ((d : Int) == 126) = false := by simp; omega
    clear hsE hsz hs hE hl c1 c2 c3 c4 h0 hcr hd hc
    go_enter Tryd.func49, Tryd.ntmps49
    go_wp2_with fail
    refine HC.out.mono ?_
    rintro e w1 ⟨n, v, rfl, hP, hb1⟩
    have hG2 := HG.out n v hP
    clear hP
    rcases hG2 with ⟨rfl, hg⟩ | ⟨⟨t, p, rfl⟩, hg⟩
    all_goals
      have HGG := Lib.hid hg
      clear hg
      go_wp2
      go_quiet (fail)
      go_wp2
      go_ret2
      exact ⟨_, _, rfl, HGG.out, below_drewN hb1 _⟩
theorem guess_any (s : ByteArray) (hs : s.size ≤ 281474976710655) (w : World) (hE : Errs w) :
    Calls Tryd.prog 49 #[.string s] w fun e w' => ∃ x ok, e = .returned (.tuple #[.float .f64 x, .bool ok]) ∧ GuessP s x ok ∧ Below w.heap.size w w' := by
  obtain ⟨l, rfl⟩ : ∃ l : List UInt8, s = ⟨l.toArray⟩ := ⟨s.data.toList, by apply ByteArray.ext; simp⟩
  have hl : l.length ≤ 281474976710655 := by
    have : (⟨l.toArray⟩ : ByteArray).size = l.length := by show l.toArray.size = _; simp
    omega
  by_cases h : ∃ r, l = 126 :: r
  · obtain ⟨r, rfl⟩ := h
    exact guess_tilde_any r (by simp at hl; omega) w hE
  by_cases c1 : l = [110, 97, 110]
  · subst c1
    exact (guess_nan_any w).mono fun e w' ⟨he, hw⟩ => ⟨_, _, he, guess_nan, by rw [hw]; exact Below.refl _ _⟩
  by_cases c2 : l = [105, 110, 102]
  · subst c2
    exact (guess_inf_any w).mono fun e w' ⟨he, hw⟩ => ⟨_, _, he, guess_inf, by rw [hw]; exact Below.refl _ _⟩
  by_cases c3 : l = [45, 105, 110, 102]
  · subst c3
    exact (guess_minf_any w).mono fun e w' ⟨he, hw⟩ => ⟨_, _, he, guess_minf, by rw [hw]; exact Below.refl _ _⟩
  by_cases c4 : l = [45, 48]
  · subst c4
    exact (guess_mz_any w).mono fun e w' ⟨he, hw⟩ => ⟨_, _, he, guess_mz, by rw [hw]; exact Below.refl _ _⟩
  exact guess_other_any l (by omega) (fun r e => h ⟨r, e⟩) c1 c2 c3 c4 w hE
/-- What Read comes to. -/
def ReadP (s : ByteArray) (y : Nat) (ok : Bool) : Prop := y < 18446744073709551616 ∧ (ok = false → y = 0) ∧ (ok = true → showS y = s) ∧ ∀ b, b < 18446744073709551616 → showS b = s → ok = true ∧ bitsN y = bitsN b
theorem Pows.bel {w w' : World} (h : Pows w) (hb : Below w.heap.size w w') : Pows w' := by
  unfold Pows Lib.TabIs World.var? at *
  cases hg : Tryd.prog.globalNamed "internal/strconv.uint64pow10" with
  | none => rw [hg] at h; simp at h
  | some g =>
    rw [hg] at h
    simp only [Option.bind_some] at h ⊢
    have hlt : g < w.heap.size := by
      rcases Nat.lt_or_ge g w.heap.size with h' | h'
      · exact h'
      · rw [Array.getElem?_eq_none h'] at h; simp at h
    rw [hb.block g hlt]
    exact h
theorem Errs.bel {w w' : World} (h : Errs w) (hb : Below w.heap.size w w') : Errs w' := by
  obtain ⟨⟨t, p, h1⟩, ⟨t2, p2, h2⟩⟩ := h
  exact ⟨⟨t, p, (hb.cell (Lib.lt_of_cell h1)).trans h1⟩, ⟨t2, p2, (hb.cell (Lib.lt_of_cell h2)).trans h2⟩⟩
set_option maxHeartbeats 1000000 in
theorem read_any (s : ByteArray) (hs : s.size ≤ 281474976710655) (w : World) (hE : Errs w) (hT : Pows w) :
    Calls Tryd.prog 37 #[.string s] w fun e w' => ∃ y ok, e = .returned (.tuple #[.float .f64 y, .bool ok]) ∧ ReadP s y ok ∧ Below w.heap.size w w' := by
  have HC := Lib.hid (guess_any s hs w hE)
  have HT := Lib.hid hT
  clear hE hT
  go_enter Tryd.func37, Tryd.ntmps37
  go_wp2_with fail
  refine HC.out.mono ?_
  rintro e w1 ⟨x, ok, rfl, hg, hb1⟩
  have HG := Lib.hid hg
  have HB1 := Lib.hid hb1
  clear hg hb1
  cases ok
  · have HR : Hid (ReadP s 0 false) := Lib.hid ⟨by decide, fun _ => rfl, (by intro h; cases h), fun b hb h => absurd (HG.out.2 b hb h).1 (by decide)⟩
    go_wp2_with fail
    go_ret2
    exact ⟨_, _, rfl, HR.out, HB1.out⟩
  · have HS := Lib.hid (show_any x HG.out.1 w1 (HT.out.bel HB1.out))
    obtain ⟨t, ht⟩ : ∃ t, t = showS x := ⟨_, rfl⟩
    rw [← ht] at HS
    by_cases he : t = s
    · have HR : Hid (ReadP s x true) := Lib.hid ⟨HG.out.1, (by intro h; cases h), fun _ => ht.symm.trans he, HG.out.2⟩
      subst he
      have q : (t.toList == t.toList) = true := by simp
      clear ht
      go_wp2_with fail
      refine HS.out.mono ?_
      rintro e w2 ⟨rfl, hb2⟩
      have HB2 := Lib.hid (HB1.out.trans (hb2.mono HB1.out.size))
      clear hb2
      go_wp2_with fail
      go_ret2
      exact ⟨_, _, rfl, HR.out, HB2.out⟩
    · have HR : Hid (ReadP s 0 false) := Lib.hid ⟨by decide, fun _ => rfl, (by intro h; cases h), fun b hb h => absurd (by rw [ht, ← show_bits, (HG.out.2 b hb h).2, show_bits, h]) he⟩
      have q : (t.toList == s.toList) = false := by rw [beq_toList]; exact decide_eq_false he
      clear ht he
      go_wp2_with fail
      refine HS.out.mono ?_
      rintro e w2 ⟨rfl, hb2⟩
      have HB2 := Lib.hid (HB1.out.trans (hb2.mono HB1.out.size))
      clear hb2
      go_wp2_with fail
      go_ret2
      exact ⟨_, _, rfl, HR.out, HB2.out⟩
end Go.Proofs.YtjlkmfnkpnmbiaaDoor
