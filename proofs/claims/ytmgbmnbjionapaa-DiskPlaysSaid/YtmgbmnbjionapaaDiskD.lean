/- A disk's power, and its Flush. Conditions: the disk lies in memory. -/
import Derived.Test.YtmgbmnbjionapaaDiskM
import Derived.Deep.MidRow
import Derived.Deep.WholeRow
namespace Go.Proofs.Ytmgbmnbjionapaa
open Go.RowKit

/-- A change's cells. -/
def chC (x : Nat × List Nat) : List Value := Value.int .i64 (x.1 : Int) :: u8s x.2
theorem chC_length (x : Nat × List Nat) (h : x.2.length = 256) : (chC x).length = 257 := by simp [chC, u8s_length, h]
theorem chC_one (x : Nat × List Nat) : ∀ u ∈ chC x, u.oneCell' = true := by
  intro u hu
  simp only [chC, List.mem_cons] at hu
  rcases hu with rfl | hu
  · rfl
  · exact u8s_one _ u hu
theorem chC_V (x : Nat × List Nat) : Value.agg (chC x).toArray = chV x.1 x.2 := rfl
theorem chs_get (wts : List (Nat × List Nat)) (h : ∀ x ∈ wts, x.2.length = 256) (k : Nat) (hk : k < wts.length) (j : Nat) (hj : j < 257) : (chs wts)[k * 257 + j]? = (chC wts[k])[j]? := by
  rcases j with _ | j
  · rw [Nat.add_zero, chs_num wts h k hk]; rfl
  · rw [show k * 257 + (j + 1) = k * 257 + 1 + j by omega, chs_byte wts h k hk j (by omega)]; rfl
theorem size_change : (Try.prog.info? 95).map (·.size) = some 257 := by kernel_rfl
theorem zeros_change : Try.zeroCells95.size = 257 := by kernel_rfl
theorem range_new (w : World) (t : TypeId) (cs : List Value) : (w.alloc (.cells cs.toArray t)).rangeAt w.heap.size 0 cs := fun j u hj => by
  rw [Nat.zero_add, (Bk.new w t cs.toArray).cell j]
  simpa using hj
section
variable {w w' : World} {S : Nat → Prop} {p T B g gi : Nat} {D D' : DM} {img : List Nat} {v : Value} {wts : List (Nat × List Nat)} {arm : Bool} {left : Int}
theorem Dk.alloc (h : Dk w B g gi img v wts arm left) (o : Obj) : Dk (w.alloc o) B g gi img v wts arm left :=
  ⟨h.box.alloc _, h.img.alloc _, h.own.alloc _, h.ne, h.lo, h.lo', h.far, h.far', h.full⟩
theorem Dk.noWait (h : Dk w B g gi img v wts arm left) : Dk (w.setCell ⟨g, 1, none⟩ (.slice none 0 0)) B g gi img (.slice none 0 0) [] arm left := by
  have := h.box.put 1 (.slice none 0 0)
  refine ⟨by simpa using this, only_bk (only_set _ _ _ _ _ (only_refl _ _)) h.img h.ne.symm, ⟨rfl, .inl ⟨rfl, rfl⟩⟩, h.ne, h.lo, h.lo', by simp [Value.ownBlock], by simp [Value.ownBlock], by simp⟩
theorem Dk.row (h : Dk w B g gi img v wts arm left) : ∃ A c, v = .slice A wts.length c ∧ wts.length ≤ c ∧ ∀ k (hk : k < wts.length), ∃ gw, A = some ⟨gw, 0, none⟩ ∧ w.rangeAt gw (k * 257) (chC wts[k]) := by
  have hsh : ∃ A c, v = .slice A wts.length c ∧ wts.length ≤ c := by
    rcases h.own.2 with ⟨e, h0⟩ | ⟨g, cap, cur, e, _, _, hc, _⟩
    · exact ⟨none, 0, by rw [e, h0], by omega⟩
    · exact ⟨_, _, e, hc⟩
  obtain ⟨A, c, rfl, hc⟩ := hsh
  refine ⟨A, c, rfl, hc, fun k hk => ?_⟩
  obtain ⟨gw, cap, hv, hb, hl⟩ := h.own.form (by omega)
  injection hv with e1 e2 e3
  subst e1
  refine ⟨gw, rfl, fun j u hj => ?_⟩
  have hj' : j < 257 := by
    have := (List.getElem?_eq_some_iff.1 hj).1
    rw [chC_length _ (h.full wts[k] (List.getElem_mem hk))] at this
    exact this
  rw [h.own.cellAt _ (by omega), chs_get wts h.full k hk j hj', hj]
theorem use_ok (h : Dsk w S p T D) (hu : D.use = some D') :
    Calls Try.prog 52 #[.pointer (some ⟨p, 0, none⟩)] w fun e w' => e = .returned (.tuple #[]) ∧ Dsk w' S p T D' ∧ Kp S S w w' := by
  obtain ⟨gi, v, hD, h1, h2⟩ := h.ex
  have hok := h.ok.use hu
  obtain ⟨img, wts, arm, left⟩ := D
  rcases arm with _ | _
  · simp [DM.use] at hu
    subst hu
    refine (power_on hD).mono ?_
    rintro e w2 ⟨rfl, rfl⟩
    exact ⟨rfl, h, Kp.refl _ _⟩
  · have hl0 := h.ok.low
    have hl1 := h.ok.high
    by_cases h0 : left = 0
    · simp [DM.use, h0] at hu
    · simp [DM.use, h0] at hu
      subst hu
      refine (power_left hD (Int.lt_iff_le_and_ne.2 ⟨hl0, fun e => h0 e.symm⟩) hl1).mono ?_
      rintro e w2 ⟨rfl, hD2, hg⟩
      exact ⟨rfl, ⟨⟨gi, v, hD2, h1, h2⟩, h.self, hok, fun i hi => Nat.lt_of_lt_of_le (h.inn i hi) hg.size⟩, Kp.of_grown hg h.self⟩
theorem use_out (h : Dsk w S p T D) (hu : D.use = none) :
    Calls Try.prog 52 #[.pointer (some ⟨p, 0, none⟩)] w fun e w' => e = .panicked [{ v := .iface 97 (.agg #[]), recovered := false }] ∧ w = w' := by
  obtain ⟨gi, v, hD, h1, h2⟩ := h.ex
  obtain ⟨img, wts, arm, left⟩ := D
  rcases arm with _ | _
  · simp [DM.use] at hu
  · by_cases h0 : left = 0
    · subst h0
      exact power_out hD
    · simp [DM.use, h0] at hu
theorem flush_out (h : Dsk w S p T D) (hu : D.use = none) :
    Calls Try.prog 28 #[.pointer (some ⟨p, 0, none⟩)] w fun e w' => e = .panicked [{ v := .iface 97 (.agg #[]), recovered := false }] ∧ w = w' := by
  have HU := Lib.hid (use_out h hu)
  clear h hu
  go_enter Try.func28, Try.ntmps28
  go_wp2_with (go_at_call 52; refine HU.out.mono ?_; rintro e w2 ⟨rfl, rfl⟩)
  exact ⟨rfl, rfl, rfl⟩
set_option maxRecDepth 100000 in
set_option maxHeartbeats 1000000 in
theorem flush_ok (h : Dsk w S p T D) (hu : D.use = some D') :
    Calls Try.prog 28 #[.pointer (some ⟨p, 0, none⟩)] w fun e w' => e = .returned (.tuple #[]) ∧ Dsk w' S p T D'.flush ∧ Kp S S w w' := by
  have HU := Lib.hid (use_ok h hu)
  have HO := Lib.hid h.ok
  clear h hu
  go_enter Try.func28, Try.ntmps28
  go_wp2_with fail
  refine HU.out.mono ?_
  rintro e w2 ⟨rfl, hD, hK⟩
  have HK := Lib.hid hK
  have HOK := Lib.hid hD.ok
  have HIN := Lib.hid hD.inn
  obtain ⟨gi, v, hDk, s1, s2⟩ := hD.ex
  have hself := hD.self
  clear hD hK
  have c1 := hDk.c1
  have HS1 := Lib.hid s1
  have HS2 := Lib.hid s2
  have HSF := Lib.hid hself
  have HDk := Lib.hid hDk
  obtain ⟨A, c, rfl, hc, hr⟩ := hDk.row
  clear hDk s1 s2 hself hr
  obtain ⟨m, hm⟩ : ∃ m, m = D'.wts.length := ⟨_, rfl⟩
  rw [← hm] at c1 hc
  have hm64 : m ≤ 64 := by rw [hm]; exact HOK.out.few
  have HM := Lib.hid hm
  clear hm
  go_wp2_with fail
  go_loopw [11] (fun i wr => ∃ k : Nat, k ≤ m ∧ i = .int .i64 k ∧ Hid (Dk wr 0 p gi (landN (fun _ => 8) D'.img D'.wts k) (.slice A D'.wts.length c) D'.wts D'.arm D'.left) ∧ Hid (w2.grownBy wr (some gi))) (fun i _ => m - (intOf i).toNat)
  case atStart => exact ⟨0, Nat.zero_le _, rfl, HDk, Lib.hid (only_refl _ _)⟩
  case round =>
    obtain ⟨k, hk, rfl, HD, HG⟩ := hrel
    by_cases hlt : k < m
    · have hkl : k < D'.wts.length := by rw [← HM.out]; exact hlt
      obtain ⟨A', c', hv, hc', hr⟩ := HD.out.row
      injection hv with e1 e2 e3
      subst e1
      obtain ⟨gw, rfl, hra⟩ := hr k hkl
      have hmem := List.getElem_mem hkl
      have HF := Lib.hid (HOK.out.full _ hmem)
      have HN := Lib.hid (HOK.out.fit _ hmem)
      have HX := Lib.hid (show D'.wts.getD k (0, []) = D'.wts[k] by simp [List.getD, hkl])
      have HLN := Lib.hid (landN_length (fun _ => 8) (fun _ => by omega) D' T HOK.out k (by omega))
      have HT2 := Lib.hid HOK.out.top
      clear hr hmem e2 e3 hc'
      generalize D'.wts[k] = x at *
      have i1 : (k : Int) < (m : Int) := by omega
      have HRA := Lib.hid hra
      have HI := Lib.hid (show (Try.prog.info? 95).map (·.size) = some (chC x).length by rw [size_change, chC_length x HF.out])
      have HI2 := Lib.hid (show (Try.prog.info? 95).map (·.size) = some (chC x).toArray.size by rw [size_change, List.size_toArray, chC_length x HF.out])
      have HZ2 := Lib.hid (show Try.zeroCells95.size = (chC x).toArray.size by rw [zeros_change, List.size_toArray, chC_length x HF.out])
      have HO1 := Lib.hid (all_oneCell_toArray (chC_one x))
      have HB := Lib.hid (show (wr.alloc (.cells Try.zeroCells95 95)).heap[wr.heap.size]? = some (.cells Try.zeroCells95 95 (0, 0)) from Bk.new wr 95 Try.zeroCells95)
      have HR2 := Lib.hid (range_new wr 95 (chC x))
      have HD3 := Lib.hid (HD.out.alloc (.cells (chC x).toArray 95))
      have HL : Hid (Calls Try.prog 53 #[.pointer (some ⟨p, 0, none⟩), .agg (chC x).toArray, .int .i64 8] (wr.alloc (.cells (chC x).toArray 95)) fun e w' => e = .returned (.tuple #[]) ∧ Dk w' 0 p gi (putB (landN (fun _ => 8) D'.img D'.wts k) (x.1 * 256) (x.2.take (8 * 32))) (.slice (some ⟨gw, 0, none⟩) D'.wts.length c) D'.wts D'.arm D'.left ∧ (wr.alloc (.cells (chC x).toArray 95)).grownBy w' (some gi)) :=
        Lib.hid (land_any HD3.out T HLN.out HT2.out x.1 HN.out x.2 HF.out 8 (by omega))
      have HG3 := Lib.hid (only_alloc HG.out (.cells (chC x).toArray 95))
      clear hra
      go_wp2_with (first
        | (with_reducible refine wpList_load_mid rfl 95 _ rfl gw (k * 257) rfl (chC x) _ HRA.out Try.underlying95 rfl HI.out ?_)
        | (with_reducible refine wpList_store_row rfl 95 _ _ rfl wr.heap.size (chC x).toArray rfl rfl 95 Try.zeroCells95 HB.out HI2.out HZ2.out HO1.out ?_; rw [World.setRow_alloc_new])
        | (with_reducible refine wpList_load_mid rfl 95 _ rfl wr.heap.size 0 rfl (chC x) _ HR2.out Try.underlying95 rfl HI.out ?_)
        | (go_at_call 53; refine HL.out.mono ?_; rintro e w4 ⟨rfl, hD4, hG4⟩; have HD4 := Lib.hid hD4; have HG4 := Lib.hid hG4; clear hD4 hG4))
      refine ⟨⟨k + 1, by omega, by go_num, Lib.hid ?_, Lib.hid (only_then HG3.out HG4.out)⟩, by simp [intOf]; omega⟩
      rw [show landN (fun _ => 8) D'.img D'.wts (k + 1) = putB (landN (fun _ => 8) D'.img D'.wts k) (x.1 * 256) (x.2.take (8 * 32)) by simp only [landN, HX.out, landP]]
      exact HD4.out
    · have HE := Lib.hid (show k = D'.wts.length by rw [← HM.out]; omega)
      have i1 : ¬ (k : Int) < (m : Int) := by omega
      have c1' := HD.out.c1
      have f1 := HD.out.box.frozen 1
      go_wp2_with fail
      refine bodyPost_end (v := .tuple #[]) ?_ rfl ?_
      · simp [results, Try.results28, go_sem]
      · have hW := HD.out.noWait
        have hG2 : w2.grownBy wr (some gi) := HG.out
        refine ⟨rfl, ⟨⟨gi, .slice none 0 0, ?_, HS1.out, by simp [Value.ownBlock]⟩, HSF.out, HOK.out.flush, fun i hi => by have h1 := HIN.out i hi; have h2 := HG.out.size; simp; omega⟩, HK.out.trans ((Kp.of_grown HG.out HS1.out).trans ((Kp.refl S wr).setCell (.inl HSF.out) _))⟩
        rw [HE.out] at hW
        exact hW
end
end Go.Proofs.Ytmgbmnbjionapaa
