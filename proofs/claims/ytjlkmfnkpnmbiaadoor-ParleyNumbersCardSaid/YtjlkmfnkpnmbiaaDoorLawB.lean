/- The walk of the statement on keys: true for every input. Condition: the bytes handed in lie in memory. -/
import Derived.Test.YtjlkmfnkpnmbiaaDoorUnkey
import Derived.Test.YtjlkmfnkpnmbiaaDoorAwake
import Derived.BigQuiet
import Derived.Deep.QuietTactic
namespace Go.Proofs.YtjlkmfnkpnmbiaaDoor
open Go.RowKit

theorem Seg.alloc_ {w : World} {A : Option Addr} {xs : List Value} (h : Seg w A xs) (o : Obj) : Seg (w.alloc o) A xs := h.bel ((Below.refl _ _).alloc (Nat.le_refl _) _)
theorem show_half_bel (w : World) :
    Calls Tryd.prog 36 #[.float .f64 4602678819172646912] w fun e w' => e = .returned (.string { data := #[126, 51, 102, 101, 48, 48, 48, 48, 48, 48, 48, 48, 48, 48, 48, 48, 48] }) ∧ Below w.heap.size w w' := by
  have hb : bitsN 4602678819172646912 = 4602678819172646912 := by decide +kernel
  have hk : kindN 4602678819172646912 = 2 := by decide +kernel
  have hn : negB 4602678819172646912 = false := by decide +kernel
  have HS := Lib.hid hexS_half
  go_enter Tryd.func36, Tryd.ntmps36
  go_wp2_with (first
    | (go_at_call 12; refine (class_any _ (by decide) _).mono ?_; rintro e w' ⟨rfl, rfl⟩)
    | (go_at_call 34; refine (whole_half _).mono ?_; rintro e w' ⟨rfl, rfl⟩)
    | (go_at_call 16; refine (bits_any _ (by decide) _).mono ?_; rintro e w' ⟨rfl, rfl⟩)
    | (go_at_call 48; refine (hex_any 4602678819172646912 (by decide) _).mono ?_; rintro e w' ⟨rfl, rfl⟩))
  go_ret
  exact ⟨by rw [← HS.out]; rfl, (Below.refl _ _).alloc (Nat.le_refl _) _⟩
theorem awake_bel (w : World) :
    Calls Tryd.prog 15 #[] w fun e w' => e = .returned (.bool true) ∧ Below w.heap.size w w' := by
  have hc : cmpN 9223372036854775808 0 = -1 := by decide +kernel
  have hb : bitsN 9218868437227405319 = 9221120237041090561 := by decide +kernel
  go_enter Tryd.func15, Tryd.ntmps15
  go_wp2_with (first
    | (go_at_call 13; refine (of_any _ _).mono ?_; rintro e w' ⟨rfl, rfl⟩)
    | (go_at_call 19; refine (cmp_any _ _ (by decide) (by decide) _).mono ?_; rintro e w' ⟨rfl, rfl⟩)
    | (go_at_call 16; refine (bits_any _ (by decide) _).mono ?_; rintro e w' ⟨rfl, rfl⟩)
    | (go_at_call 36; refine (show_half_bel _).mono ?_; rintro e w1 ⟨rfl, hg⟩))
  go_ret
  exact ⟨rfl, hg⟩
theorem key_bel (b : Nat) (hb : b < 18446744073709551616) (w : World) :
    Calls Tryd.prog 25 #[.float .f64 b] w fun e w' => ∃ g, e = .returned (.slice (some ⟨g, 0, none⟩) 8 8) ∧ Seg w' (some ⟨g, 0, none⟩) (u8s (digs (rankN b))) ∧ Below w.heap.size w w' :=
  (key_any b hb w).mono fun e w' ⟨he, hw⟩ => ⟨_, he, by rw [hw]; exact key_seg w _, by rw [hw]; exact (Below.refl _ _).alloc (Nat.le_refl _) _⟩

/-- A key as a text. -/
def keyL (r : Nat) : List UInt8 := (digs r).map UInt8.ofNat
def keyS (r : Nat) : ByteArray := ⟨(keyL r).toArray⟩
theorem keyL_length (r : Nat) : (keyL r).length = 8 := by simp [keyL, digs_length]
theorem less_map : ∀ (x y : List Nat), (∀ a ∈ x, a < 256) → (∀ a ∈ y, a < 256) → Op.bytesLess (x.map UInt8.ofNat) (y.map UInt8.ofNat) = lessN x y
  | [], [], _, _ => rfl
  | [], _ :: _, _, _ => rfl
  | _ :: _, [], _, _ => rfl
  | a :: x, b :: y, hx, hy => by
    have ha := hx a (by simp)
    have hb := hy b (by simp)
    have ih := less_map x y (fun c hc => hx c (by simp [hc])) (fun c hc => hy c (by simp [hc]))
    simp only [List.map_cons, Op.bytesLess, lessN, ih]
    have e1 : (UInt8.ofNat a < UInt8.ofNat b) ↔ a < b := by
      rw [UInt8.lt_iff_toNat_lt]; simp [Nat.mod_eq_of_lt ha, Nat.mod_eq_of_lt hb]
    have e2 : (UInt8.ofNat a == UInt8.ofNat b) = decide (a = b) := by
      rw [Bool.eq_iff_iff, beq_iff_eq, decide_eq_true_eq, ← UInt8.toNat_inj]; simp [Nat.mod_eq_of_lt ha, Nat.mod_eq_of_lt hb]
    rw [e2]
    by_cases h1 : a < b
    · simp [e1, h1]
    · by_cases h2 : b < a
      · simp [e1, h1, h2]; intro h; omega
      · have : a = b := by omega
        subst this
        simp [h1, e1]
theorem less_keys (r s : Nat) (hr : r < 18446744073709551616) (hs : s < 18446744073709551616) : Op.bytesLess (keyS r).toList (keyS s).toList = decide (r < s) := by
  unfold keyS
  rw [ByteArray.toList_mk, ByteArray.toList_mk]
  unfold keyL
  rw [less_map _ _ (digs_lt r) (digs_lt s), less_digs r s hr hs]
theorem run_keystring (w : World) (g r : Nat) (h : Seg w (some ⟨g, 0, none⟩) (u8s (digs r))) : (convert 44 9 (.slice (some ⟨g, 0, none⟩) 8 8)).run Tryd.prog w = .ok (.string (keyS r)) w := by
  have hl := keyL_length r
  have := run_convert_bytes_back (P := Tryd.prog) w 44 9 5 ⟨g, 0, none⟩ 8 (keyL r) Tryd.underlying44 Tryd.underlying5 Tryd.underlying9 (fun j hj => by
    rw [hl] at hj
    obtain ⟨b, off, e, _, hc⟩ := h (by intro e; have := congrArg List.length e; rw [u8s_length, digs_length] at this; simp at this)
    have e2 : (⟨g, 0, none⟩ : Addr) = ⟨b, off, none⟩ := by injection e
    have e1 : ((⟨g, 0, none⟩ : Addr).add j) = ⟨b, off + j, none⟩ := by
      rw [e2]; unfold Addr.add; split <;> simp_all
    have hj' : j < (digs r).length := by rw [digs_length]; exact hj
    have hlt := digs_lt r _ (List.getElem_mem hj')
    rw [e1, hc j (by rw [u8s_length]; exact hj'), List.getElem?_eq_getElem (by rw [u8s_length]; exact hj'), u8s_get _ _ hj']
    simp [keyL, Nat.mod_eq_of_lt hlt])
  rw [hl] at this
  exact this
theorem cmp_lt (a b : Nat) : decide (cmpN a b < 0) = decide (rankN a < rankN b) := by
  congr 1
  apply propext
  unfold cmpN
  by_cases c1 : rankN a < rankN b
  · rw [if_pos c1]; simp [c1]
  · rw [if_neg c1]
    by_cases c2 : rankN b < rankN a
    · rw [if_pos c2]; simp [c1]
    · rw [if_neg c2]; simp [c1]

set_option maxRecDepth 100000 in
set_option maxHeartbeats 2000000 in
theorem keys_any (a b : Nat) (A : Option Addr) (n c : Nat) (l : List Nat) (ha : a < 18446744073709551616) (hb : b < 18446744073709551616) (hn : n = l.length) (w : World) (hA : Seg w A (u8s l)) (hl : ∀ x ∈ l, x < 256)
    (hreach : n ≤ 140737488351232) :
    Calls Tryd.prog 6 #[.int .u64 a, .int .u64 b, .slice A n c] w fun e w' => e = .returned (.bool true) ∧ Below w.heap.size w w' := by
  obtain ⟨i0, hi0, hz0, hz1, hz2⟩ := info_parts info5
  have H1 := Lib.hid ha
  have H2 := Lib.hid hb
  have HA := Lib.hid hA
  have HL := Lib.hid hl
  have HN := Lib.hid hn
  have kk := unkey_key a ha
  obtain ⟨uo, ub⟩ := kk
  have HD := Lib.hid (digs_lt (rankN a))
  have HD8 := Lib.hid (digs_length (rankN a))
  have f00 : (FloatKind.f64.format.order 0 0 != some Ordering.eq) = false := by decide +kernel
  have f0 : unkeyOk l = false → unkeyF l = 0 := by intro h; unfold unkeyF; rw [if_neg (by rw [h]; simp)]
  have HO := Lib.hid (World.ownsRow_lit (base := 0) (e := 5) (size := 1) · #[] 0 (Nat.zero_le _) (by decide) rfl)
  clear ha hb hA hl hn
  go_enter Tryd.func6, Tryd.ntmps6
  go_wp2_with fail
  refine (of_nat a _).mono ?_; rintro e w' ⟨rfl, rfl⟩
  go_wp2_with fail
  refine (key_bel a H1.out _).mono ?_; rintro e w1 ⟨g1, rfl, s1, b1⟩; have S1 := Lib.hid s1; have B1 := Lib.hid b1; clear s1 b1
  go_wp2_with fail
  refine (of_nat b _).mono ?_; rintro e w' ⟨rfl, rfl⟩
  go_wp2_with fail
  refine (key_bel b H2.out _).mono ?_; rintro e w2 ⟨g2, rfl, s2, b2⟩; have S2 := Lib.hid s2; have B2 := Lib.hid b2; clear s2 b2
  have z1 := B1.out.size
  have z2 := B2.out.size
  go_wp2_with (first
    | (at_builtin; refine wpList_append_seg _ rfl (.tmp 22) (.tmp 23) _ rfl w2.heap.size 5 i0 _ 1 Tryd.underlying44 hi0 hz0 hz1 hz2 rfl _ 0 _ rfl (World.ownsRow_lit w2 #[] 0 (by omega) (by decide) rfl) (some ⟨g1, 0, none⟩) 8 8 (u8s (digs (rankN a))) rfl (by rw [u8s_length, HD8.out]) ((S1.out.bel B2.out).alloc_ _) (u8s_one _) (by simp only [maxLen]; omega) (by omega) (by simp only [World.size_alloc]; omega) ?_; intro v3 w3 hown3 hb3; obtain ⟨A3, c3, rfl, hc3, s3⟩ := own_shape hown3; simp only [Nat.zero_add, List.nil_append] at s3; have S3 := Lib.hid s3; have B3 := Lib.hid hb3; clear s3 hb3 hown3; have z3 := B3.out.size; simp only [World.size_alloc] at z3)
    | (at_builtin; fail))
  have X3 := Lib.hid (((Below.refl w2.heap.size w2).alloc (Nat.le_refl _) (.cells #[] 5)).trans B3.out)
  have W3 := Lib.hid (below_step (below_step B1.out B2.out) X3.out)
  refine (unkey_any A3 8 c3 (digs (rankN a)) HD8.out.symm _ S3.out HD.out).mono ?_; rintro e w' ⟨rfl, rfl⟩
  go_wp2_with (at_builtin; refine wpList_append_seg _ rfl (.tmp 29) (.tmp 30) _ rfl w3.heap.size 5 i0 _ 1 Tryd.underlying44 hi0 hz0 hz1 hz2 rfl _ 0 _ rfl (World.ownsRow_lit w3 #[] 0 (by omega) (by decide) rfl) A n c (u8s l) rfl (by rw [u8s_length, ← HN.out]) ((HA.out.bel W3.out).alloc_ _) (u8s_one _) (by simp only [maxLen]; omega) (by omega) (by simp only [World.size_alloc]; omega) ?_; intro v4 w4 hown4 hb4; obtain ⟨A4, c4, rfl, hc4, s4⟩ := own_shape hown4; simp only [Nat.zero_add, List.nil_append] at s4; have S4 := Lib.hid s4; have B4 := Lib.hid hb4; clear s4 hb4 hown4; have z4 := B4.out.size; simp only [World.size_alloc] at z4)
  have X4 := Lib.hid (((Below.refl w3.heap.size w3).alloc (Nat.le_refl _) (.cells #[] 5)).trans B4.out)
  have W4 := Lib.hid (below_step W3.out X4.out)
  refine (unkey_any A4 n c4 l HN.out _ S4.out HL.out).mono ?_; rintro e w' ⟨rfl, rfl⟩
  go_wp2_with fail
  refine (refunkey_any A n c l HN.out _ (HA.out.bel W4.out) HL.out (by omega)).mono ?_; rintro e w5 ⟨rfl, b5⟩
  have W5 := Lib.hid (below_step W4.out b5); have B5 := Lib.hid b5; clear b5
  go_wp2_with fail
  refine (awake_bel _).mono ?_; rintro e w6 ⟨rfl, b6⟩
  have W6 := Lib.hid (below_step W5.out b6); have B6 := Lib.hid b6; clear b6
  go_wp2_with fail
  refine (refkey_any a H1.out _).mono ?_; rintro e w7 ⟨A7, c7, rfl, hc7, s7, b7⟩
  have W7 := Lib.hid (below_step W6.out b7); have B7 := Lib.hid b7; have S7 := Lib.hid s7; clear b7 s7
  have K7 := Lib.hid ((((((S1.out.bel B2.out).bel X3.out).bel X4.out).bel B5.out).bel B6.out).bel B7.out)
  have L7 := Lib.hid (((((S2.out.bel X3.out).bel X4.out).bel B5.out).bel B6.out).bel B7.out)
  go_wp2_with fail
  refine (same_u8 (some ⟨g1, 0, none⟩) A7 8 8 8 c7 (digs (rankN a)) (digs (rankN a)) HD8.out.symm HD8.out.symm _ K7.out S7.out (by omega) (by omega)).mono ?_; rintro e w8 ⟨rfl, b8⟩
  have W8 := Lib.hid (below_step W7.out b8)
  have C1 := Lib.hid (fun nq => run_keystring (w8.drewN nq) g1 _ ((K7.out.bel b8).bel (below_drewN (Below.refl _ _) nq)))
  have C2 := Lib.hid (fun nq => run_keystring (w8.drewN nq) g2 _ ((L7.out.bel b8).bel (below_drewN (Below.refl _ _) nq)))
  have HE := Lib.hid (show Op.bytesLess (keyS (rankN a)).toList (keyS (rankN b)).toList = decide (cmpN a b < 0) by
    rw [less_keys _ _ (rankN_lt a H1.out) (rankN_lt b H2.out), cmp_lt])
  clear b8 hreach z1 z2 z3 z4 hc3 hc4 hc7
  have sd : decide (digs (rankN a) = digs (rankN a)) = true := by simp
  cases ho : unkeyOk l
  · have hf := f0 ho
    have HO2 := Lib.hid ho
    clear f0
    go_wp2_with (first
      | (go_at_call 16; refine (bits_any _ (by first | exact unkeyF_lt _ HD.out | exact unkeyF_lt _ HL.out) _).mono ?_; rintro e w' ⟨rfl, rfl⟩)
      | (go_at_call 17; refine (refbits_any _ (by first | exact H1.out | exact unkeyF_lt _ HL.out) _).mono ?_; rintro e w' ⟨rfl, rfl⟩))
    have c1 := C1.out
    have c2 := C2.out
    have he := HE.out
    go_quiet ((go_at_call 18; exact Calls.quiet_of_same ((refcmp_any a b H1.out H2.out _).mono fun _ _ ⟨h1, h2⟩ => ⟨h1, h2.symm⟩)))
    go_wp2
    go_ret
    exact ⟨by simp, below_drewN W8.out _⟩
  · clear f0
    go_wp2_with (first
      | (go_at_call 16; refine (bits_any _ (by first | exact unkeyF_lt _ HD.out | exact unkeyF_lt _ HL.out) _).mono ?_; rintro e w' ⟨rfl, rfl⟩)
      | (go_at_call 17; refine (refbits_any _ (by first | exact H1.out | exact unkeyF_lt _ HL.out) _).mono ?_; rintro e w' ⟨rfl, rfl⟩))
    have c1 := C1.out
    have c2 := C2.out
    have he := HE.out
    go_quiet ((go_at_call 18; exact Calls.quiet_of_same ((refcmp_any a b H1.out H2.out _).mono fun _ _ ⟨h1, h2⟩ => ⟨h1, h2.symm⟩)))
    go_wp2
    go_ret
    exact ⟨by simp, below_drewN W8.out _⟩
end Go.Proofs.YtjlkmfnkpnmbiaaDoor
