/- A disk's Crash. Conditions: the disk lies in memory. -/
import Derived.Test.YtmgbmnbjionapaaDiskD
namespace Go.Proofs.Ytmgbmnbjionapaa
open Go.RowKit

theorem keep_bit (keep k : Nat) (h : keep < 18446744073709551616) : (bits BinOp.and IntKind.u64 ((keep : Int) / 2 ^ k) 1 == 1) = keep.testBit k := by
  have hp : (0 : Int) < 2 ^ k := Int.pow_pos (by omega)
  have h0 : 0 ≤ (keep : Int) / 2 ^ k := Int.ediv_nonneg (by omega) (by omega)
  have h1 : (keep : Int) / 2 ^ k ≤ (keep : Int) := Int.ediv_le_self _ (by omega)
  rw [and_one_u64 _ h0 (by omega), Nat.testBit_eq_decide_div_mod_eq]
  have e : ((keep : Int) / 2 ^ k) % 2 = ((keep / 2 ^ k % 2 : Nat) : Int) := by push_cast; rfl
  rw [e, Bool.eq_iff_iff]
  simp only [beq_iff_eq, decide_eq_true_eq]
  omega
theorem crash_cases (keep : Nat) (tear sectors : Int) (k : Nat) :
    (keep.testBit k = true ∧ crashS keep tear sectors k = 8) ∨ (keep.testBit k = false ∧ ((k : Int) == tear) = false ∧ crashS keep tear sectors k = 0) ∨
    (keep.testBit k = false ∧ ((k : Int) == tear) = true ∧ 8 < sectors ∧ crashS keep tear sectors k = 8) ∨ (keep.testBit k = false ∧ ((k : Int) == tear) = true ∧ sectors < 0 ∧ crashS keep tear sectors k = 0) ∨
    (keep.testBit k = false ∧ ((k : Int) == tear) = true ∧ ∃ s : Nat, sectors = (s : Int) ∧ 0 ≤ s ∧ s ≤ 8 ∧ crashS keep tear sectors k = s) := by
  unfold crashS
  rcases hb : keep.testBit k with _ | _
  · by_cases ht : (k : Int) = tear
    · simp only [ht, beq_self_eq_true, if_true, Bool.false_eq_true, if_false, true_and, false_and, false_or, reduceCtorEq]
      by_cases h8 : 8 < sectors
      · exact .inl ⟨h8, by omega⟩
      · by_cases h0 : sectors < 0
        · exact .inr (.inl ⟨h0, by omega⟩)
        · exact .inr (.inr ⟨sectors.toNat, by omega, by omega, by omega, by omega⟩)
    · have : ((k : Int) == tear) = false := by simpa using ht
      simp [ht, this]
  · simp
theorem landP_zero (im : List Nat) (x : Nat × List Nat) : landP 0 im x = im := by
  simp [landP, putB]
section
variable {w w' : World} {S : Nat → Prop} {p T B g gi : Nat} {D D' : DM} {img : List Nat} {v : Value} {wts : List (Nat × List Nat)} {arm : Bool} {left : Int}
set_option maxRecDepth 100000 in
set_option maxHeartbeats 2000000 in
theorem crash_any (h : Dsk w S p T D) (keep : Nat) (hkeep : keep < 18446744073709551616) (tear sectors : Int) :
    Calls Try.prog 41 #[.pointer (some ⟨p, 0, none⟩), .int .u64 (keep : Int), .int .i64 tear, .int .i64 sectors] w fun e w' => e = .returned (.tuple #[]) ∧ Dsk w' S p T (D.crash keep tear sectors) ∧ Kp S S w w' := by
  have HOK := Lib.hid h.ok
  have HIN := Lib.hid h.inn
  obtain ⟨gi, v, hDk, s1, s2⟩ := h.ex
  have hself := h.self
  have c1 := hDk.c1
  have HS1 := Lib.hid s1
  have HS2 := Lib.hid s2
  have HSF := Lib.hid hself
  have HDk := Lib.hid hDk
  obtain ⟨A, c, rfl, hc, hr⟩ := hDk.row
  clear h hDk s1 s2 hself hr
  obtain ⟨m, hm⟩ : ∃ m, m = D.wts.length := ⟨_, rfl⟩
  rw [← hm] at c1 hc
  have hm64 : m ≤ 64 := by rw [hm]; exact HOK.out.few
  have HM := Lib.hid hm
  have HKP := Lib.hid hkeep
  clear hm hkeep
  go_enter Try.func41, Try.ntmps41
  go_wp2_with fail
  go_loopw [15] (fun i wr => ∃ k : Nat, k ≤ m ∧ i = .int .i64 k ∧ Hid (Dk wr 0 p gi (landN (crashS keep tear sectors) D.img D.wts k) (.slice A D.wts.length c) D.wts D.arm D.left) ∧ Hid (w.grownBy wr (some gi))) (fun i _ => m - (intOf i).toNat)
  case atStart => exact ⟨0, Nat.zero_le _, rfl, HDk, Lib.hid (only_refl _ _)⟩
  case round =>
    obtain ⟨k, hk, rfl, HD, HG⟩ := hrel
    by_cases hlt : k < m
    · have hkl : k < D.wts.length := by rw [← HM.out]; exact hlt
      obtain ⟨A', c', hv, hc', hr⟩ := HD.out.row
      injection hv with e1 e2 e3
      subst e1
      obtain ⟨gw, rfl, hra⟩ := hr k hkl
      have hmem := List.getElem_mem hkl
      have HF := Lib.hid (HOK.out.full _ hmem)
      have HN := Lib.hid (HOK.out.fit _ hmem)
      have HX := Lib.hid (show D.wts.getD k (0, []) = D.wts[k] by simp [List.getD, hkl])
      have HLN := Lib.hid (landN_length (crashS keep tear sectors) (crashS_le _ _ _) D T HOK.out k (by omega))
      have HT2 := Lib.hid HOK.out.top
      clear hr hmem e2 e3 hc'
      generalize D.wts[k] = x at *
      have i1 : (k : Int) < (m : Int) := by omega
      have HRA := Lib.hid hra
      have HI := Lib.hid (show (Try.prog.info? 95).map (·.size) = some (chC x).length by rw [size_change, chC_length x HF.out])
      have HI2 := Lib.hid (show (Try.prog.info? 95).map (·.size) = some (chC x).toArray.size by rw [size_change, List.size_toArray, chC_length x HF.out])
      have HZ2 := Lib.hid (show Try.zeroCells95.size = (chC x).toArray.size by rw [zeros_change, List.size_toArray, chC_length x HF.out])
      have HO1 := Lib.hid (all_oneCell_toArray (chC_one x))
      have HB := Lib.hid (show (wr.alloc (.cells Try.zeroCells95 95)).heap[wr.heap.size]? = some (.cells Try.zeroCells95 95 (0, 0)) from Bk.new wr 95 Try.zeroCells95)
      have HR2 := Lib.hid (range_new wr 95 (chC x))
      have HD3 := Lib.hid (HD.out.alloc (.cells (chC x).toArray 95))
      have HL : ∀ s : Nat, s ≤ 8 → Hid (Calls Try.prog 53 #[.pointer (some ⟨p, 0, none⟩), .agg (chC x).toArray, .int .i64 (s : Int)] (wr.alloc (.cells (chC x).toArray 95)) fun e w' => e = .returned (.tuple #[]) ∧ Dk w' 0 p gi (putB (landN (crashS keep tear sectors) D.img D.wts k) (x.1 * 256) (x.2.take (s * 32))) (.slice (some ⟨gw, 0, none⟩) D.wts.length c) D.wts D.arm D.left ∧ (wr.alloc (.cells (chC x).toArray 95)).grownBy w' (some gi)) :=
        fun s hs => Lib.hid (land_any HD3.out T HLN.out HT2.out x.1 HN.out x.2 HF.out s hs)
      have HG3 := Lib.hid (only_alloc HG.out (.cells (chC x).toArray 95))
      have HLL := Lib.hid HL
      have HLS := Lib.hid (show landN (crashS keep tear sectors) D.img D.wts (k + 1) = landP (crashS keep tear sectors k) (landN (crashS keep tear sectors) D.img D.wts k) x by simp only [landN, HX.out])
      have hb := keep_bit keep k HKP.out
      clear hra HL
      rcases crash_cases keep tear sectors k with ⟨hc1, hc2⟩ | ⟨hc1, hc3, hc2⟩ | ⟨hc1, hc3, hc4, hc2⟩ | ⟨hc1, hc3, hc4, hc2⟩ | ⟨hc1, hc3, s, rfl, hc4, hc5, hc2⟩
      all_goals
        rw [hc1] at hb
        have HC2 := Lib.hid hc2
        clear hc2 hc1
      case inr.inl =>
        go_wp2_with (first
          | (with_reducible refine wpList_load_mid rfl 95 _ rfl gw (k * 257) rfl (chC x) _ HRA.out Try.underlying95 rfl HI.out ?_)
          | (with_reducible refine wpList_store_row rfl 95 _ _ rfl wr.heap.size (chC x).toArray rfl rfl 95 Try.zeroCells95 HB.out HI2.out HZ2.out HO1.out ?_; rw [World.setRow_alloc_new])
          | (with_reducible refine wpList_load_mid rfl 95 _ rfl wr.heap.size 0 rfl (chC x) _ HR2.out Try.underlying95 rfl HI.out ?_))
        refine ⟨⟨k + 1, by omega, by go_num, Lib.hid ?_, HG3⟩, by simp [intOf]; omega⟩
        rw [HLS.out, HC2.out, landP_zero]
        exact HD3.out
      all_goals
        go_wp2_with (first
          | (with_reducible refine wpList_load_mid rfl 95 _ rfl gw (k * 257) rfl (chC x) _ HRA.out Try.underlying95 rfl HI.out ?_)
          | (with_reducible refine wpList_store_row rfl 95 _ _ rfl wr.heap.size (chC x).toArray rfl rfl 95 Try.zeroCells95 HB.out HI2.out HZ2.out HO1.out ?_; rw [World.setRow_alloc_new])
          | (with_reducible refine wpList_load_mid rfl 95 _ rfl wr.heap.size 0 rfl (chC x) _ HR2.out Try.underlying95 rfl HI.out ?_))
      · refine ((HLL.out 8 (by omega)).out).mono ?_
        rintro e w4 ⟨rfl, hD4, hG4⟩
        have HD4 := Lib.hid hD4
        have HG4 := Lib.hid hG4
        clear hD4 hG4
        go_wp2_with fail
        refine ⟨⟨k + 1, by omega, by go_num, Lib.hid ?_, Lib.hid (only_then HG3.out HG4.out)⟩, by simp [intOf]; omega⟩
        rw [HLS.out, HC2.out]
        exact HD4.out
      · refine ((HLL.out 8 (by omega)).out).mono ?_
        rintro e w4 ⟨rfl, hD4, hG4⟩
        have HD4 := Lib.hid hD4
        have HG4 := Lib.hid hG4
        clear hD4 hG4
        go_wp2_with fail
        refine ⟨⟨k + 1, by omega, by go_num, Lib.hid ?_, Lib.hid (only_then HG3.out HG4.out)⟩, by simp [intOf]; omega⟩
        rw [HLS.out, HC2.out]
        exact HD4.out
      · refine ((HLL.out 0 (by omega)).out).mono ?_
        rintro e w4 ⟨rfl, hD4, hG4⟩
        have HD4 := Lib.hid hD4
        have HG4 := Lib.hid hG4
        clear hD4 hG4
        go_wp2_with fail
        refine ⟨⟨k + 1, by omega, by go_num, Lib.hid ?_, Lib.hid (only_then HG3.out HG4.out)⟩, by simp [intOf]; omega⟩
        rw [HLS.out, HC2.out]
        exact HD4.out
      · refine ((HLL.out s (by omega)).out).mono ?_
        rintro e w4 ⟨rfl, hD4, hG4⟩
        have HD4 := Lib.hid hD4
        have HG4 := Lib.hid hG4
        clear hD4 hG4
        go_wp2_with fail
        refine ⟨⟨k + 1, by omega, by go_num, Lib.hid ?_, Lib.hid (only_then HG3.out HG4.out)⟩, by simp [intOf]; omega⟩
        rw [HLS.out, HC2.out]
        exact HD4.out
    · have HE := Lib.hid (show k = D.wts.length by rw [← HM.out]; omega)
      have i1 : ¬ (k : Int) < (m : Int) := by omega
      have c1' := HD.out.c1
      have f1 := HD.out.box.frozen 1
      have HA := Lib.hid (arm_any (HD.out.noWait) (-1))
      go_wp2_with (go_at_call 26; refine HA.out.mono ?_; rintro e w4 ⟨rfl, hD4, hG4⟩; have HD4 := Lib.hid hD4; have HG4 := Lib.hid hG4; clear hD4 hG4)
      refine bodyPost_end (v := .tuple #[]) ?_ rfl ?_
      · simp [results, Try.results41, go_sem]
      · have hW := HD4.out
        refine ⟨rfl, ⟨⟨gi, .slice none 0 0, ?_, HS1.out, by simp [Value.ownBlock]⟩, HSF.out, HOK.out.crash keep tear sectors, fun i hi => by have h1 := HIN.out i hi; have h2 := HG.out.size; have h3 := HG4.out.size; simp at h3; omega⟩, (Kp.of_grown HG.out HS1.out).trans (((Kp.refl S wr).setCell (.inl HSF.out) _).trans (Kp.of_grown HG4.out HSF.out))⟩
        rw [HE.out] at hW
        exact hW
end
end Go.Proofs.Ytmgbmnbjionapaa
