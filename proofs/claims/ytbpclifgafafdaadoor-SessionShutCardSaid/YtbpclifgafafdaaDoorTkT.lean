/- A token that was issued says what it was issued for; few bytes; the fixed answers. Conditions: the bytes lie in memory; the library's table and errors are laid. -/
import Derived.Test.YtbpclifgafafdaaDoorTkV
import Derived.Lib.SlBytesConst
namespace Go.Proofs.YtbpclifgafafdaaDoor
open Go.RowKit Go.Shelf Go.PlainAid

theorem split_three {l p q r : List UInt8} (h : partsD l = some (p, q, r)) : splitD l = [p, q, r] ∧ p = pD l ∧ q = qD l ∧ fD l = true ∧ (cutD (rD l)).2.2 = false := by
  have h2 := parts_cut l
  rw [h] at h2
  split at h2
  · rename_i hc
    simp only [Option.some.injEq, Prod.mk.injEq] at h2
    refine ⟨?_, h2.1, h2.2.1, hc.1, hc.2⟩
    unfold partsD at h
    split at h
    · rename_i a b c hs
      simp only [Option.some.injEq, Prod.mk.injEq] at h
      rw [hs, h.1, h.2.1, h.2.2]
    · cases h
  · cases h2
theorem run_parts (s : ByteArray) : ∀ (f k : Nat), runFrom s f k = s.size → ∀ i, k ≤ i → i < s.size → partB (bt s i) = true
  | 0, k, h, i, hk, hi => by simp only [runFrom] at h; omega
  | f + 1, k, h, i, hk, hi => by
    unfold runFrom at h
    split at h
    · rename_i hc
      rcases Nat.lt_or_ge k i with h2 | h2
      · exact run_parts s f (k + 1) h i h2 hi
      · have : k = i := by omega
        subst this; exact hc.2
    · omega
theorem name_nodot {s : ByteArray} (h : nameB s = true) : (46 : UInt8) ∉ s.data.toList := by
  unfold nameB at h
  simp only [decide_eq_true_eq] at h
  have hr : runFrom s s.size 0 = s.size := h.2.2.2.2
  intro hm
  obtain ⟨i, hi, he⟩ := List.getElem_of_mem hm
  have hi' : i < s.size := by rw [Array.length_toList] at hi; exact hi
  have := run_parts s s.size 0 hr i (Nat.zero_le _) hi'
  unfold bt at this
  rw [dif_pos hi'] at this
  have e2 : s[i] = 46 := by rw [← he, Array.getElem_toList]; rfl
  rw [e2] at this
  revert this; decide
theorem name_size {s : ByteArray} (h : nameB s = true) : s.size ≤ 16 := by
  unfold nameB at h
  simp only [decide_eq_true_eq] at h
  exact h.2.1
theorem hex_nodot (l : List Nat) (hl : ∀ x ∈ l, x < 256) : (46 : UInt8) ∉ (txt (hexN l)).data.toList := by
  intro hm
  unfold txt at hm
  simp only [List.mem_map] at hm
  obtain ⟨d, hd, he⟩ := hm
  unfold hexN at hd
  simp only [List.mem_flatMap, List.mem_cons, List.not_mem_nil, or_false] at hd
  obtain ⟨y, hy, hd⟩ := hd
  have hy2 := hl y hy
  have key : ∀ d, d < 16 → UInt8.ofNat (digC d) ≠ 46 := by decide +kernel
  rcases hd with rfl | rfl
  · exact key _ (by omega) he
  · exact key _ (by omega) he
theorem ba_list (s : ByteArray) : (⟨s.data.toList.toArray⟩ : ByteArray) = s := by apply ByteArray.ext; simp
theorem ba_app_list (a b : ByteArray) : (a ++ b).data.toList = a.data.toList ++ b.data.toList := by rw [ByteArray.data_append]; simp
/-- What an issued token says. -/
theorem ver_tok (key : List Nat) (user : ByteArray) (u : Nat) (hn : nameB user = true) (hu : u < 9223372036854775808) (now : Int) :
    verV key (tokT key user (u : Int)).data.toList now = (if now < (u : Int) then user else ⟨#[]⟩) ∧ verE key (tokT key user (u : Int)).data.toList now = (if (u : Int) ≤ now then 10 else 0) := by
  have hL : (tokT key user (u : Int)).data.toList = user.data.toList ++ 46 :: (Lib.decDigits u ++ 46 :: (markT key user (u : Int)).data.toList) := by
    unfold tokT saidT
    rw [ba_app_list, ba_app_list, ba_app_list, ba_app_list, intS_nat]
    simp [decS]
  have hp := parts_mk (name_nodot hn) (dec_nodot u) (show (46 : UInt8) ∉ (markT key user (u : Int)).data.toList from hex_nodot _ (macN_lt _ _))
  rw [← hL] at hp
  have hts : (⟨(tokT key user (u : Int)).data.toList.toArray⟩ : ByteArray) = tokT key user (u : Int) := ba_list _
  obtain ⟨hsp, hpp, hqq, hf, hr⟩ := split_three hp
  have hok : okD (tokT key user (u : Int)).data.toList = true := by
    unfold okD
    rw [hf, hr, ← hpp, ← hqq, ba_list, hn, num_of hu]; rfl
  unfold verV verE
  rw [hok, ← hpp, ← hqq, num_of hu, ba_list, hts]
  simp only [Option.getD_some, true_and, Bool.true_eq_false, if_false, ne_eq, not_true_eq_false]
theorem tok_size (key : List Nat) (user : ByteArray) (u : Int) : (tokT key user u).size = (saidT user u).size + 41 := by
  unfold tokT
  rw [ByteArray.size_append, ByteArray.size_append, markT_size]; rfl
def annS : ByteArray := ⟨#[97, 110, 110]⟩
theorem ann_name : nameB annS = true := by decide +kernel
set_option maxRecDepth 100000 in
set_option maxHeartbeats 2000000 in
theorem awake_any (w : World) (hE : Errs w) (hT : Pows w) :
    Calls Tryd.prog 4 #[] w fun e w' => e = .returned (.bool true) ∧ Below w.heap.size w w' := by
  have hc := fun (w : World) (C : Array Value) (n c : Nat) => Lib.run_convert_bytes_const (P := Tryd.prog) w 47 5 C n c Tryd.underlying47 Tryd.underlying5
  obtain ⟨T, hTe⟩ : ∃ T, T = tokT [107] annS (5 : Nat) := ⟨_, rfl⟩
  have hz := tok_size [107] annS (5 : Nat)
  have hz2 : (saidT annS ((5 : Nat) : Int)).size = 5 := by decide +kernel
  rw [← hTe, hz2] at hz
  have HZ := Lib.hid hz
  obtain ⟨v4, e4⟩ := ver_tok [107] annS 5 ann_name (by decide) 4
  obtain ⟨v5, e5⟩ := ver_tok [107] annS 5 ann_name (by decide) 5
  rw [← hTe] at v4 e4 v5 e5
  rw [if_pos (by decide)] at v4
  rw [if_neg (by decide)] at e4
  rw [if_neg (by decide)] at v5
  rw [if_pos (by decide)] at e5
  have hseg : ∀ w0 : World, Seg (w0.alloc (.cells #[.int .u8 107] 5 (1, 2))) (some ⟨w0.heap.size, 0, none⟩) (u8s [107]) := fun w0 => Seg.of_block (heap_alloc_new w0 _) (by
    intro i hi
    match i, hi with
    | 0, _ => rfl)
  have CI : Hid (∀ w0, Pows w0 → Calls Tryd.prog 9 #[.slice (some ⟨w0.heap.size, 0, none⟩) 1 1, .string annS, .int .i64 5] (w0.alloc (.cells #[.int .u8 107] 5 (1, 2))) fun e w' => e = .returned (.tuple #[.string T, .int .i64 0]) ∧ Below w0.heap.size w0 w') := Lib.hid (fun w0 hP => by
    have hb := (Below.refl w0.heap.size w0).alloc (Nat.le_refl _) (.cells #[.int .u8 107] 5 (1, 2))
    rw [hTe]
    exact (issue_ok (some ⟨w0.heap.size, 0, none⟩) 1 1 [107] rfl (by decide) (Nat.le_refl _) annS (by decide) ((5 : Nat) : Int) (by decide) (by decide) _ (hseg w0) (by decide) (hP.bel hb) ann_name).mono fun e w' ⟨h1, h2⟩ => ⟨h1, hb.trans (h2.mono hb.size)⟩)
  have hl : T.data.toList.length ≤ 1000 := by
    have : T.data.toList.length = T.size := by rw [Array.length_toList]; rfl
    omega
  have CV : Hid (∀ (now : Int) (V : ByteArray) (E : Int), -9223372036854775808 ≤ now → now ≤ 9223372036854775807 → verV [107] T.data.toList now = V → verE [107] T.data.toList now = E → ∀ w0, Errs w0 → Pows w0 → Calls Tryd.prog 10 #[.slice (some ⟨w0.heap.size, 0, none⟩) 1 1, .string T, .int .i64 now] (w0.alloc (.cells #[.int .u8 107] 5 (1, 2))) fun e w' => e = .returned (.tuple #[.string V, .int .i64 E]) ∧ Below w0.heap.size w0 w') := Lib.hid (fun now V E h0 h1 hV hE w0 hEr hP => by
    have hb := (Below.refl w0.heap.size w0).alloc (Nat.le_refl _) (.cells #[.int .u8 107] 5 (1, 2))
    have h := verify_any (some ⟨w0.heap.size, 0, none⟩) 1 1 [107] rfl (by decide) (Nat.le_refl _) T.data.toList hl now h0 h1 _ (hseg w0) (by decide) (hEr.bel hb) (hP.bel hb)
    rw [ba_list, hV, hE] at h
    exact h.mono fun e w' ⟨h1, h2⟩ => ⟨h1, hb.trans (h2.mono hb.size)⟩)
  have C4 := Lib.hid (CV.out 4 annS 0 (by decide) (by decide) v4 e4)
  have C5 := Lib.hid (CV.out 5 ⟨#[]⟩ 10 (by decide) (by decide) v5 e5)
  have HEP := Lib.hid (And.intro hE hT)
  clear CV hl hseg v4 e4 v5 e5 hz hz2 hTe hE hT
  unfold annS at CI C4
  go_enter Tryd.func4, Tryd.ntmps4
  go_wp2_with fail
  refine (CI.out _ HEP.out.2).mono ?_
  rintro e w1 ⟨rfl, b1⟩
  have B1 := Lib.hid b1
  clear b1
  go_wp2_with fail
  refine (C4.out _ (HEP.out.1.bel B1.out) (HEP.out.2.bel B1.out)).mono ?_
  rintro e w2 ⟨rfl, b2⟩
  have B2 := Lib.hid (below_step B1.out b2)
  clear b2
  go_wp2_with fail
  refine (C5.out _ (HEP.out.1.bel B2.out) (HEP.out.2.bel B2.out)).mono ?_
  rintro e w3 ⟨rfl, b3⟩
  have B3 := Lib.hid (below_step B2.out b3)
  have hz := HZ.out
  have hz46 : ((T.size : Int) == 46) = true := by rw [hz]; rfl
  clear b3
  go_wp2_with fail
  go_ret
  exact ⟨rfl, B3.out⟩
end Go.Proofs.YtbpclifgafafdaaDoor
