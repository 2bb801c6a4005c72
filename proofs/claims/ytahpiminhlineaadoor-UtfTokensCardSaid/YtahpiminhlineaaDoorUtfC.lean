/- The mentions of a text: the list, each once, in order. Condition: the text is not too long. -/
import Derived.Test.YtahpiminhlineaaDoorUtfB
import Derived.Maps.OwnSet
import Derived.Maps.AppendAt
import Derived.StringKeys
import Derived.Carry
namespace Go.Proofs.YtahpiminhlineaaDoor
open Go.RowKit Go.Shelf Go.PlainAid Go.Maps Go.WideShapes

def strV (l : List ByteArray) : List Value := l.map Value.string
theorem strV_length (l : List ByteArray) : (strV l).length = l.length := by simp [strV]
/-- The word behind place i. -/
def wordS (s : ByteArray) (i : Nat) : ByteArray := runS (s.extract (i + 1) s.size)
/-- Is a text among these? -/
def memB (x : ByteArray) (l : List ByteArray) : Bool := l.any fun y => decide (y = x)
theorem memB_iff {x : ByteArray} {l : List ByteArray} : memB x l = true ↔ x ∈ l := by
  unfold memB
  simp [List.any_eq_true]
/-- Is the word behind place k one that goes to the list's end? -/
def freshB (s : ByteArray) (k : Nat) (l : List ByteArray) : Bool := mentB s k && nameB (wordS s k) && !memB (wordS s k) l
/-- The names that are mentioned ahead of place k, each once. -/
def mentTo (s : ByteArray) : Nat → List ByteArray
  | 0 => []
  | k + 1 => if freshB s k (mentTo s k) = true then mentTo s k ++ [wordS s k] else mentTo s k
def mentL (s : ByteArray) : List ByteArray := mentTo s s.size
theorem mentTo_len (s : ByteArray) : ∀ k, (mentTo s k).length ≤ k
  | 0 => Nat.le_refl _
  | k + 1 => by
    have := mentTo_len s k
    rw [mentTo]
    split
    · simp; omega
    · omega
theorem word_size (s : ByteArray) (i : Nat) : (wordS s i).size ≤ s.size := by
  unfold wordS
  rw [runS_size]
  have := runN_le (s.extract (i + 1) s.size)
  rw [ByteArray.size_extract] at this
  omega
theorem mentTo_size (s : ByteArray) : ∀ k, ∀ x ∈ mentTo s k, x.size ≤ s.size
  | 0, x, h => by cases h
  | k + 1, x, h => by
    rw [mentTo] at h
    split at h
    · rcases List.mem_append.1 h with h | h
      · exact mentTo_size s k x h
      · simp at h; rw [h]; exact word_size s k
    · exact mentTo_size s k x h
def keyL (s : ByteArray) : Lit := .string s.data.toList
def SdM {H : Type} (s : ByteArray) (k : Nat) : DataW H := setOf (.agg []) ((mentTo s k).map keyL)
theorem keyL_same (a b : ByteArray) : (keyL a).sameKey (keyL b) = decide (a = b) := by
  have e : (keyL a).sameKey (keyL b) = decide (a.data.toList = b.data.toList) := by
    show (a.data.toList == b.data.toList) = _
    rw [Bool.eq_iff_iff, beq_iff_eq, decide_eq_true_eq]
  rw [e]
  by_cases h : a = b
  · subst h; simp
  · rw [decide_eq_false (fun he => h (ByteArray.ext (Array.toList_inj.1 he))), decide_eq_false h]
theorem has_SdM {H : Type} (s : ByteArray) (k : Nat) (x : ByteArray) : Maps.has (SdM (H := H) s k) (keyL x) = memB x (mentTo s k) := by
  unfold SdM
  rw [has_setOf _ _ _ (fun y hy => by obtain ⟨_, _, rfl⟩ := List.mem_map.1 hy; trivial), List.any_map]
  unfold memB
  congr 1
  funext y
  exact keyL_same y x
theorem ment_old {s : ByteArray} {k : Nat} (h : freshB s k (mentTo s k) = false) : mentTo s (k + 1) = mentTo s k := by rw [mentTo, if_neg (by simp [h])]
theorem ment_new {s : ByteArray} {k : Nat} (h : freshB s k (mentTo s k) = true) : mentTo s (k + 1) = mentTo s k ++ [wordS s k] := by rw [mentTo, if_pos h]
theorem SdM_old {H : Type} {s : ByteArray} {k : Nat} (h : freshB s k (mentTo s k) = false) : SdM (H := H) s (k + 1) = SdM s k := by unfold SdM; rw [ment_old h]
theorem SdM_new {H : Type} {s : ByteArray} {k : Nat} (h : freshB s k (mentTo s k) = true) : SdM (H := H) s (k + 1) = (SdM s k).put (keyL (wordS s k)) (.agg []) := by
  unfold SdM
  rw [ment_new h, List.map_append, List.map_singleton, setOf_snoc]
theorem row_ne {w : World} {base : Nat} {e : TypeId} {size : Nat} {v : Value} {n : Nat} {xs : List Value} (h : w.ownsRow base e size v n xs) {b : Nat} (hb : b < base) : some b ≠ v.ownBlock := fun e1 => by
  have := (h.lt b e1.symm).1
  omega
theorem info_str : (Tryd.prog.info? 9).map (fun i => (i.zero, i.size, i.bytes)) = some (some (.string ⟨#[]⟩), 1, 16) := by kernel_rfl
theorem zero_unit (w : World) : (zeroValue 52).run Tryd.prog w = .ok (.agg #[]) w := by kernel_rfl
theorem law_str : Keyed Tryd.prog 9 := string_keyed Tryd.underlying9
theorem own_bel {w w' : World} {base : Nat} {e : TypeId} {v : Value} {n : Nat} {xs : List Value} (h : w.ownsRow base e 1 v n xs) (hb : Below w.heap.size w w') : w'.ownsRow base e 1 v n xs := by
  refine ⟨h.1, ?_⟩
  rcases h.2 with hn | ⟨g, cap, cur, rfl, hg, hgg, rest⟩
  · exact .inl hn
  · refine .inr ⟨g, cap, cur, rfl, hg, ?_, rest⟩
    rw [hb.block g (Array.getElem?_eq_some_iff.1 hgg).1]
    exact hgg
theorem map_bel {H : Type} {P : Program} {k : TypeId} {R : Value → Option (DataW H × List MemPlace)} {w w' : World} {b n : Nat} {D : DataW H} (h : w.ownsMap P k R b n D) (hb : Below w.heap.size w w') : w'.ownsMap P k R b n D := by
  have hlt := h.lt
  obtain ⟨es, clock, hh, F, hs, hD⟩ := h
  exact ⟨es, clock, (hb.block b hlt).trans hh, F, hs, hD⟩
theorem strV_one (l : List ByteArray) : ∀ u ∈ strV l, u.oneCell' = true := by
  intro u hu
  simp only [strV, List.mem_map] at hu
  obtain ⟨x, _, rfl⟩ := hu
  rfl
set_option maxRecDepth 100000 in
set_option maxHeartbeats 1000000 in
theorem mentions_any (s : ByteArray) (hs : s.size ≤ 100000) (w : World) :
    Calls Tryd.prog 22 #[.string s] w fun e w' => (∃ v, e = .returned v ∧ w'.ownsRow (w.heap.size + 1) 9 1 v (mentL s).length (strV (mentL s))) ∧ Below w.heap.size w w' := by
  have hmm := @run_makeMap Tryd.prog
  obtain ⟨i0, hi, hz0, hz1, hz2⟩ := info_parts info_str
  go_enter Tryd.func22, Tryd.ntmps22
  go_wp2
  go_loopw [3, 12] (fun v i wr => ∃ k : Nat, k ≤ s.size ∧ i = .int .i64 k ∧ wr.ownsMap Tryd.prog 9 unitElem w.heap.size k (SdM (H := Unit) s k) ∧ wr.ownsRow (w.heap.size + 1) 9 1 v (mentTo s k).length (strV (mentTo s k)) ∧
      Below w.heap.size w wr ∧ w.heap.size + 1 ≤ wr.heap.size)
    (fun _ i _ => s.size - (intOf i).toNat)
  case atStart => exact ⟨0, Nat.zero_le _, rfl, World.ownsMap_made _ _ _ _, World.ownsRow_nil _ _ _ _, (Below.refl _ _).alloc (Nat.le_refl _) _, by simp⟩
  case round =>
    obtain ⟨k, hk, rfl, hown, hrow, hnx, hws⟩ := hrel
    by_cases hlt : k < s.size
    · have hal := mentTo_len s k
      cases hm : mentB s k
      · have hf : freshB s k (mentTo s k) = false := by unfold freshB; rw [hm]; rfl
        have HD := Lib.hid (show SdM (H := Unit) s (k + 1) = SdM s k from SdM_old hf)
        have HM := Lib.hid (ment_old hf)
        have HO := Lib.hid (hown.mono (Nat.le_succ k))
        have HR := Lib.hid hrow
        clear hf hown hrow
        go_wp2_with (first | (go_at_call 39; refine (ment_any s (by omega) k hlt _).mono ?_; rintro e w1 ⟨rfl, rfl⟩; rw [hm]) | go_in)
        go_roundw
        case rel => exact ⟨k + 1, by omega, by go_num, by rw [HD.out]; exact HO.out, by rw [HM.out]; exact HR.out, hnx, hws⟩
        case measure => simp [intOf]; omega
      · obtain ⟨wd, hwd⟩ : ∃ x, x = wordS s k := ⟨_, rfl⟩
        have CN : ∀ w, Calls Tryd.prog 40 #[.string (s.extract (k + 1) s.size)] w fun e w' => e = .returned (.string wd) ∧ w' = w := fun w => by
          rw [hwd]
          exact nrun_any _ (by rw [ByteArray.size_extract]; omega) w
        have hwz : wd.size ≤ s.size := by rw [hwd]; exact word_size s k
        have hkey : keyOf Tryd.prog 9 (.string wd) = some (keyL wd) := Go.WideMaps.keyOf_string_mk Tryd.underlying9 (by simp only [maxLen]; omega)
        have HWD := Lib.hid hwd
        clear hwd
        cases hin : memB wd (mentTo s k)
        · cases hnm : nameB wd
          · skip
            have hf : freshB s k (mentTo s k) = false := by unfold freshB; rw [hm, ← HWD.out, hnm]; simp
            have HD := Lib.hid (show SdM (H := Unit) s (k + 1) = SdM s k from SdM_old hf)
            have HM := Lib.hid (ment_old hf)
            have hhas : Maps.has (SdM (H := Unit) s k) (keyL wd) = false := by rw [has_SdM]; exact hin
            clear hf
            go_wp2_with (first
              | (go_at_call 39; refine (ment_any s (by omega) k hlt _).mono ?_; rintro e w1 ⟨rfl, rfl⟩; rw [hm])
              | (go_at_call 40; refine (CN _).mono ?_; rintro e w1 ⟨rfl, rfl⟩)
              | (go_at_call 23; refine (name_any wd (by omega) _).mono ?_; rintro e w1 ⟨rfl, rfl⟩; rw [hnm])
              | (at_lookup; refine wpList_lookup_own_unit _ rfl _ _ 51 rfl 9 52 law_str Tryd.underlying51 (zero_unit _) w.heap.size k _ rfl hown (.string wd) (keyL wd) rfl hkey ?_; rw [hhas])
              | go_in)
            go_roundw
            case rel => exact ⟨k + 1, by omega, by go_num, by rw [HD.out]; exact (hown.alloc _).mono (Nat.le_succ k), by rw [HM.out]; exact hrow.alloc _, hnx.alloc hnx.size _, by simp; omega⟩
            case measure => simp [intOf]; omega
          · skip
            have hf : freshB s k (mentTo s k) = true := by unfold freshB; rw [hm, ← HWD.out, hnm, hin]; rfl
            have HD := Lib.hid (show SdM (H := Unit) s (k + 1) = _ from SdM_new hf)
            have HM := Lib.hid (ment_new hf)
            have hhas : Maps.has (SdM (H := Unit) s k) (keyL wd) = false := by rw [has_SdM]; exact hin
            rw [← HWD.out] at HD HM
            clear hf
            go_wp2_with (first
              | (go_at_call 39; refine (ment_any s (by omega) k hlt _).mono ?_; rintro e w1 ⟨rfl, rfl⟩; rw [hm])
              | (go_at_call 40; refine (CN _).mono ?_; rintro e w1 ⟨rfl, rfl⟩)
              | (go_at_call 23; refine (name_any wd (by omega) _).mono ?_; rintro e w1 ⟨rfl, rfl⟩; rw [hnm])
              | (at_lookup; refine wpList_lookup_own_unit _ rfl _ _ 51 rfl 9 52 law_str Tryd.underlying51 (zero_unit _) w.heap.size k _ rfl hown (.string wd) (keyL wd) rfl hkey ?_; rw [hhas])
              | (go_at_call 41; refine (sclone_any wd _ (by omega)).mono ?_; rintro e w2 ⟨rfl, hb2⟩)
              | (at_mapUpdate; refine wpList_mapUpdate_own _ rfl _ _ _ 51 rfl 9 52 law_str Tryd.underlying51 (unitElem (H := Unit)) w.heap.size k _ rfl (map_bel (hown.alloc _) hb2) (by simp only [maxLen]; omega) (.string wd) _ (keyL wd) rfl rfl hkey _ [] unitElem_mk ?_; intro w3 hown3 hgrow3)
              | (at_builtin; refine wpList_append_own _ rfl _ _ 31 rfl (w.heap.size + 1) 9 i0 (.string ⟨#[]⟩) 1 16 Tryd.underlying31 hi hz0 hz1 hz2 rfl (by decide) _ _ _ rfl (((own_bel (hrow.alloc _) hb2).kept hgrow3 (Or.inr (row_ne hrow (Nat.lt_succ_self _)).symm)).alloc _) ⟨w3.heap.size, 0, none⟩ 1 1 [.string wd] rfl rfl (cell_one_new _ _ _) (strV_one [wd]) (by simp only [maxLen]; omega) (by omega) (by have := hgrow3.size; have := hb2.size; simp at *; omega) ?_; intro v' w4 hown4 hgrow4 _)
              | go_in)
            have hr1 := (own_bel (hrow.alloc (.cells #[] 52)) hb2).kept hgrow3 (Or.inr (row_ne hrow (Nat.lt_succ_self _)).symm)
            have s1 := hgrow3.size
            have s2 := hgrow4.size
            have s3 := hb2.size
            simp at s1 s2 s3
            go_roundw
            case rel =>
              refine ⟨k + 1, by omega, by go_num, ?_, ?_, ?_, by omega⟩
              · rw [HD.out]
                exact (hown3.alloc _).kept hgrow4 (row_ne hr1 (Nat.lt_succ_self _))
              · rw [HM.out, List.length_append]
                simpa [strV] using hown4
              · have q1 := (hnx.alloc hnx.size (.cells #[] 52)).trans (hb2.mono (by simp; omega))
                have q2 := q1.grown hgrow3 (by omega) (fun j hj => by cases hj; exact Nat.le_refl _)
                exact (q2.alloc (by omega) _).grown hgrow4 (by simp; omega) (fun j hj => Nat.le_trans (Nat.le_succ _) (hr1.lt j hj).1)
            case measure => simp [intOf]; omega
        · skip
          have hf : freshB s k (mentTo s k) = false := by unfold freshB; rw [hm, ← HWD.out, hin]; simp
          have HD := Lib.hid (show SdM (H := Unit) s (k + 1) = SdM s k from SdM_old hf)
          have HM := Lib.hid (ment_old hf)
          have hhas : Maps.has (SdM (H := Unit) s k) (keyL wd) = true := by rw [has_SdM]; exact hin
          clear hf
          go_wp2_with (first
            | (go_at_call 39; refine (ment_any s (by omega) k hlt _).mono ?_; rintro e w1 ⟨rfl, rfl⟩; rw [hm])
            | (go_at_call 40; refine (CN _).mono ?_; rintro e w1 ⟨rfl, rfl⟩)
            | (at_lookup; refine wpList_lookup_own_unit _ rfl _ _ 51 rfl 9 52 law_str Tryd.underlying51 (zero_unit _) w.heap.size k _ rfl hown (.string wd) (keyL wd) rfl hkey ?_; rw [hhas])
            | go_in)
          go_roundw
          case rel => exact ⟨k + 1, by omega, by go_num, by rw [HD.out]; exact (hown.alloc _).mono (Nat.le_succ k), by rw [HM.out]; exact hrow.alloc _, hnx.alloc hnx.size _, by simp; omega⟩
          case measure => simp [intOf]; omega
    · have he : k = s.size := by omega
      subst he
      go_wp2
      go_ret
      exact ⟨⟨_, rfl, hrow⟩, hnx⟩
end Go.Proofs.YtahpiminhlineaaDoor
