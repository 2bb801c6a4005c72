/- The walk of SessionTokens. Conditions: the bytes lie in memory; the texts are not huge; the library's table and errors are laid. -/
import Derived.Test.YtamhpikjnieeeaaDoorTkT
import Derived.Test.YtamhpikjnieeeaaDoorSame
namespace Go.Proofs.YtamhpikjnieeeaaDoor
open Go.RowKit Go.Shelf Go.PlainAid

theorem u8s_ints (l : List Nat) : u8s l = (l.map fun (x : Nat) => (x : Int)).map (Value.int .u8) := by unfold u8s; simp [List.map_map, Function.comp_def]
set_option maxRecDepth 100000 in
set_option maxHeartbeats 4000000 in
theorem tokens_any (A : Option Addr) (n c : Nat) (l : List Nat) (hn : n = l.length) (hnc : n ≤ c) (hz : n ≤ 1000000000000000) (hlb : ∀ x ∈ l, x < 256) (user : ByteArray) (hu : user.size ≤ 281474976710655) (till now : Int) (ht0 : -9223372036854775808 ≤ till) (ht1 : till ≤ 9223372036854775807) (hn0 : -9223372036854775808 ≤ now) (hn1 : now ≤ 9223372036854775807) (other : ByteArray) (ho : other.size ≤ 281474976710655) (w : World) (hA : Seg w A (u8s l)) (hE : Errs w) (hT : Pows w) :
    Calls Tryd.prog 3 #[.slice A n c, .string user, .int .i64 till, .int .i64 now, .string other] w fun e w' => e = .returned (.bool true) ∧ Below w.heap.size w w' := by
  have CF := Lib.hid (fun w' h => few_any A n c l hn hnc hz w' h)
  obtain ⟨k, hk⟩ : ∃ k, k = l.take 100 := ⟨_, rfl⟩
  rw [← hk] at CF
  have hkb : ∀ x ∈ k, x < 256 := fun x hx => hlb x (by rw [hk] at hx; exact List.mem_of_mem_take hx)
  obtain ⟨m, hm⟩ : ∃ m, m = k.length := ⟨_, rfl⟩
  have hm100 : m ≤ 100 := by rw [hm, hk, List.length_take]; omega
  rw [← hm] at CF
  have HK := Lib.hid (And.intro hkb hm)
  have HA := Lib.hid hA
  have HEP := Lib.hid (And.intro hE hT)
  -- the text, cut
  obtain ⟨L, hL⟩ : ∃ L, L = other.data.toList.take 200 := ⟨_, rfl⟩
  have hLl : L.length ≤ 200 := by rw [hL, List.length_take]; omega
  obtain ⟨s2, hs2⟩ : ∃ s2 : ByteArray, s2 = ⟨L.toArray⟩ := ⟨_, rfl⟩
  have hcut : (200 < other.size ∧ ∀ w', (Instr.slice 9 (.string other) none (some (.int .i64 200)) none).run Tryd.prog w' = .ok (.string s2) w') ∨ (¬ 200 < other.size ∧ other = s2) := by
    rcases Nat.lt_or_ge 200 other.size with h | h
    · refine Or.inl ⟨h, fun w' => ?_⟩
      rw [run_slice_string_h w' 9 other Tryd.underlying9 .i64 200 (by omega) (by omega)]
      congr 2
      rw [hs2, hL]
      apply ByteArray.ext
      rw [ByteArray.data_extract]
      apply Array.toList_inj.1
      simp [show (200 : Int).toNat = 200 from rfl]
    · refine Or.inr ⟨by omega, ?_⟩
      rw [hs2, hL, List.take_of_length_le (by rw [Array.length_toList]; exact h)]
  have HL := Lib.hid (And.intro hLl hs2)
  -- what is issued
  obtain ⟨good, hgood⟩ : ∃ g, g = (nameB user && decide (0 ≤ till)) := ⟨_, rfl⟩
  have CN := Lib.hid (fun w' => rname_any user (by omega) w')
  obtain ⟨W, hW⟩ : ∃ W, W = verV k L now := ⟨_, rfl⟩
  obtain ⟨E, hEe⟩ : ∃ E, E = verE k L now := ⟨_, rfl⟩
  have HWE := Lib.hid (And.intro hW hEe)
  have q1 : (W.toList == W.toList) = true := by simp
  have q2 : (E == E) = true := by simp
  have hosz : (other.size : Int) ≤ 281474976710655 := by omega
  clear hk hm hkb hL hs2 hLl hW hEe hA hE hT hn hz hlb ho
  cases hg : good
  · -- refused
    have CI : Hid (∀ A' c' w', Calls Tryd.prog 5 #[.slice A' m c', .string user, .int .i64 till] w' fun e w'' => e = .returned (.tuple #[.string ⟨#[]⟩, .int .i64 1]) ∧ Below w'.heap.size w' w'') := Lib.hid (fun A' c' w' => issue_no A' m c' user (by omega) till w' (by
      rw [hg] at hgood
      cases h : nameB user
      · exact Or.inl rfl
      · rw [h, Bool.true_and] at hgood
        exact Or.inr (by have := of_decide_eq_false hgood.symm; omega)))
    have hfin : nameB user = false ∨ (nameB user = true ∧ till < 0) := by
      rw [hg] at hgood
      cases h : nameB user
      · exact Or.inl rfl
      · rw [h, Bool.true_and] at hgood
        exact Or.inr ⟨rfl, by have := of_decide_eq_false hgood.symm; omega⟩
    have HF := Lib.hid hfin
    clear hg hgood hfin hu
    rcases hcut with ⟨hlen, hsl⟩ | ⟨hlen, heq⟩
    all_goals
      try subst heq
      go_enter Tryd.func3, Tryd.ntmps3
      go_wp2_with fail
      refine (CF.out w HA.out).mono ?_
      rintro e w1 ⟨A1, c1, rfl, hc1, hs1, b1⟩
      have S1 := Lib.hid hs1
      have B1 := Lib.hid b1
      clear hs1 b1
      go_wp2_with fail
      refine (CI.out A1 c1 w1).mono ?_
      rintro e w2 ⟨rfl, b2⟩
      have S2 := Lib.hid (S1.out.bel b2)
      have B2 := Lib.hid (below_step B1.out b2)
      clear b2 S1 B1
      have CV := Lib.hid (verify_any A1 m c1 k HK.out.2 hm100 hc1 L (by have := HL.out.1; omega) now hn0 hn1 w2 S2.out HK.out.1 (HEP.out.1.bel B2.out) (HEP.out.2.bel B2.out))
      rw [← HL.out.2, ← HWE.out.1, ← HWE.out.2] at CV
      go_wp2_with fail
      refine CV.out.mono ?_
      rintro e w3 ⟨rfl, b3⟩
      have S3 := Lib.hid (S2.out.bel b3)
      have B3 := Lib.hid (below_step B2.out b3)
      clear b3 S2 B2 CV
      have CR := Lib.hid (rverify_any A1 m c1 k HK.out.2 hm100 L (by have := HL.out.1; omega) now hn0 hn1 w3 S3.out HK.out.1)
      rw [← HL.out.2, ← HWE.out.1, ← HWE.out.2] at CR
      go_wp2_with fail
      refine CR.out.mono ?_
      rintro e w4 ⟨rfl, b4⟩
      have S4 := Lib.hid (S3.out.bel b4)
      have B4 := Lib.hid (below_step B3.out b4)
      clear b4 S3 B3 CR
      have CA := Lib.hid (awake_any w4 (HEP.out.1.bel B4.out) (HEP.out.2.bel B4.out))
      go_wp2_with fail
      refine CA.out.mono ?_
      rintro e w5 ⟨rfl, b5⟩
      have S5 := Lib.hid (S4.out.bel b5)
      have B5 := Lib.hid (below_step B4.out b5)
      clear b5 S4 B4 CA
      go_wp2_with fail
      refine (CF.out w5 (HA.out.bel B5.out)).mono ?_
      rintro e w6 ⟨A2, c2, rfl, hc2, hs2, b6⟩
      have S6 := Lib.hid (S5.out.bel b6)
      have S7 := Lib.hid hs2
      have B6 := Lib.hid (below_step B5.out b6)
      clear hs2 b6 S5 B5
      have CS := Lib.hid (same_any A1 A2 c1 c2 (k.map fun (x : Nat) => (x : Int)) (k.map fun (x : Nat) => (x : Int)) w6 (by rw [← u8s_ints]; exact S6.out) (by rw [← u8s_ints]; exact S7.out) (by rw [List.length_map, ← HK.out.2]; omega) (by rw [List.length_map, ← HK.out.2]; omega))
      rw [List.length_map, ← HK.out.2, decide_eq_true rfl] at CS
      go_wp2_with fail
      refine CS.out.mono ?_
      rintro e w7 ⟨rfl, b7⟩
      have B7 := Lib.hid (below_step B6.out b7)
      clear b7 B6 CS
      rcases HF.out with hnm | ⟨hnm, hneg⟩
      · rw [hnm] at CN
        go_wp2_with (go_at_call 10; refine (CN.out _).mono ?_; rintro e w' ⟨rfl, rfl⟩)
        go_ret
        exact ⟨rfl, B7.out⟩
      · rw [hnm] at CN
        go_wp2_with (go_at_call 10; refine (CN.out _).mono ?_; rintro e w' ⟨rfl, rfl⟩)
        go_ret
        exact ⟨rfl, B7.out⟩
  · -- issued
    rw [hg] at hgood
    have hgg := hgood.symm
    simp only [Bool.and_eq_true, decide_eq_true_eq] at hgg
    obtain ⟨hnm, hpos⟩ := hgg
    obtain ⟨u, rfl⟩ : ∃ u : Nat, till = (u : Int) := ⟨till.toNat, by omega⟩
    have husz := name_size hnm
    have hu64 : u < 9223372036854775808 := by omega
    rw [hnm] at CN
    obtain ⟨T, hTe⟩ : ∃ T, T = tokT k user (u : Int) := ⟨_, rfl⟩
    have CI : Hid (∀ A' c' w', m ≤ c' → Seg w' A' (u8s k) → Pows w' → Calls Tryd.prog 5 #[.slice A' m c', .string user, .int .i64 (u : Int)] w' fun e w'' => e = .returned (.tuple #[.string T, .int .i64 0]) ∧ Below w'.heap.size w' w'') := Lib.hid (fun A' c' w' hc' hs' hP => by
      rw [hTe]
      exact issue_ok A' m c' k HK.out.2 hm100 hc' user (by omega) (u : Int) (by omega) (by omega) w' hs' HK.out.1 hP hnm)
    have CK : Hid (∀ A' c' w', Seg w' A' (u8s k) → Calls Tryd.prog 11 #[.slice A' m c', .string user, .int .i64 (u : Int)] w' fun e w'' => e = .returned (.string T) ∧ Below w'.heap.size w' w'') := Lib.hid (fun A' c' w' hs' => by
      rw [hTe]
      exact rtok_any A' m c' k HK.out.2 hm100 user (by omega) (u : Int) (by omega) (by omega) w' hs' HK.out.1)
    have hTl : T.data.toList.length ≤ 1000 := by
      have h1 : T.data.toList.length = T.size := by rw [Array.length_toList]; rfl
      have h2 := tok_size k user (u : Int)
      have h3 := saidT_size user (u : Int) (by omega) (by omega)
      rw [← hTe] at h2
      omega
    obtain ⟨v1, v2⟩ := ver_tok k user u hnm hu64 now
    rw [← hTe] at v1 v2
    have CW : Hid (∀ A' c' w', m ≤ c' → Seg w' A' (u8s k) → Errs w' → Pows w' → Calls Tryd.prog 6 #[.slice A' m c', .string T, .int .i64 now] w' fun e w'' => e = .returned (.tuple #[.string (if now < (u : Int) then user else ⟨#[]⟩), .int .i64 (if (u : Int) ≤ now then 10 else 0)]) ∧ Below w'.heap.size w' w'') := Lib.hid (fun A' c' w' hc' hs' hEr hP => by
      have h := verify_any A' m c' k HK.out.2 hm100 hc' T.data.toList hTl now hn0 hn1 w' hs' HK.out.1 hEr hP
      rw [ba_list, v1, v2] at h
      exact h)
    have hnow : (now < (u : Int)) ∨ ¬ now < (u : Int) := by omega
    have q3 : (T.toList == T.toList) = true := by simp
    have q4 : (user.toList == user.toList) = true := by simp
    clear hg hgood hTe hTl v1 v2 husz hnm hu ht0
    rcases hcut with ⟨hlen, hsl⟩ | ⟨hlen, heq⟩
    all_goals
      try subst heq
      go_enter Tryd.func3, Tryd.ntmps3
      go_wp2_with fail
      refine (CF.out w HA.out).mono ?_
      rintro e w1 ⟨A1, c1, rfl, hc1, hs1, b1⟩
      have S1 := Lib.hid hs1
      have B1 := Lib.hid b1
      clear hs1 b1
      go_wp2_with fail
      refine (CI.out A1 c1 w1 hc1 S1.out (HEP.out.2.bel B1.out)).mono ?_
      rintro e w2 ⟨rfl, b2⟩
      have S2 := Lib.hid (S1.out.bel b2)
      have B2 := Lib.hid (below_step B1.out b2)
      clear b2 S1 B1
      have CV := Lib.hid (verify_any A1 m c1 k HK.out.2 hm100 hc1 L (by have := HL.out.1; omega) now hn0 hn1 w2 S2.out HK.out.1 (HEP.out.1.bel B2.out) (HEP.out.2.bel B2.out))
      rw [← HL.out.2, ← HWE.out.1, ← HWE.out.2] at CV
      go_wp2_with fail
      refine CV.out.mono ?_
      rintro e w3 ⟨rfl, b3⟩
      have S3 := Lib.hid (S2.out.bel b3)
      have B3 := Lib.hid (below_step B2.out b3)
      clear b3 S2 B2 CV
      have CR := Lib.hid (rverify_any A1 m c1 k HK.out.2 hm100 L (by have := HL.out.1; omega) now hn0 hn1 w3 S3.out HK.out.1)
      rw [← HL.out.2, ← HWE.out.1, ← HWE.out.2] at CR
      go_wp2_with fail
      refine CR.out.mono ?_
      rintro e w4 ⟨rfl, b4⟩
      have S4 := Lib.hid (S3.out.bel b4)
      have B4 := Lib.hid (below_step B3.out b4)
      clear b4 S3 B3 CR
      have CA := Lib.hid (awake_any w4 (HEP.out.1.bel B4.out) (HEP.out.2.bel B4.out))
      go_wp2_with fail
      refine CA.out.mono ?_
      rintro e w5 ⟨rfl, b5⟩
      have S5 := Lib.hid (S4.out.bel b5)
      have B5 := Lib.hid (below_step B4.out b5)
      clear b5 S4 B4 CA
      go_wp2_with fail
      refine (CF.out w5 (HA.out.bel B5.out)).mono ?_
      rintro e w6 ⟨A2, c2, rfl, hc2, hs2, b6⟩
      have S6 := Lib.hid (S5.out.bel b6)
      have S7 := Lib.hid hs2
      have B6 := Lib.hid (below_step B5.out b6)
      clear hs2 b6 S5 B5
      have CS := Lib.hid (same_any A1 A2 c1 c2 (k.map fun (x : Nat) => (x : Int)) (k.map fun (x : Nat) => (x : Int)) w6 (by rw [← u8s_ints]; exact S6.out) (by rw [← u8s_ints]; exact S7.out) (by rw [List.length_map, ← HK.out.2]; omega) (by rw [List.length_map, ← HK.out.2]; omega))
      rw [List.length_map, ← HK.out.2, decide_eq_true rfl] at CS
      go_wp2_with fail
      refine CS.out.mono ?_
      rintro e w7 ⟨rfl, b7⟩
      have S8 := Lib.hid (S6.out.bel b7)
      have B7 := Lib.hid (below_step B6.out b7)
      clear b7 B6 CS S6 S7
      have CX := Lib.hid (CW.out A1 c1 w7 hc1 S8.out (HEP.out.1.bel B7.out) (HEP.out.2.bel B7.out))
      go_wp2_with (go_at_call 10; refine (CN.out _).mono ?_; rintro e w' ⟨rfl, hww⟩; obtain rfl := hww.symm)
      rcases hnow with hnow | hnow
      · rw [if_pos (by omega), if_neg (by omega)] at CX
        refine CX.out.mono ?_
        rintro e w8 ⟨rfl, b8⟩
        have S9 := Lib.hid (S8.out.bel b8)
        have B8 := Lib.hid (below_step B7.out b8)
        clear b8 CX
        go_wp2_with fail
        refine (CK.out A1 c1 w8 S9.out).mono ?_
        rintro e w9 ⟨rfl, b9⟩
        have B9 := Lib.hid (below_step B8.out b9)
        clear b9
        go_wp2_with fail
        go_ret
        exact ⟨rfl, B9.out⟩
      · rw [if_neg (by omega), if_pos (by omega)] at CX
        refine CX.out.mono ?_
        rintro e w8 ⟨rfl, b8⟩
        have S9 := Lib.hid (S8.out.bel b8)
        have B8 := Lib.hid (below_step B7.out b8)
        clear b8 CX
        go_wp2_with fail
        refine (CK.out A1 c1 w8 S9.out).mono ?_
        rintro e w9 ⟨rfl, b9⟩
        have B9 := Lib.hid (below_step B8.out b9)
        clear b9
        go_wp2_with fail
        go_ret
        exact ⟨rfl, B9.out⟩
end Go.Proofs.YtamhpikjnieeeaaDoor
