/- A disk's Write. Conditions: the disk lies in memory, and so do the bytes, elsewhere. -/
import Derived.Test.YtmgbmnbjionapaaDiskE
import Derived.Deep.AppendLies
import Derived.Deep.RegionLaw
import Derived.Great.FillDense
import Derived.Great.BuildSlice
namespace Go.Proofs.Ytmgbmnbjionapaa
open Go.RowKit

theorem chs_append : ∀ (a b : List (Nat × List Nat)), chs (a ++ b) = chs a ++ chs b
  | [], _ => rfl
  | (n, l) :: r, b => by
    show Value.int .i64 (n : Int) :: (u8s l ++ chs (r ++ b)) = (Value.int .i64 (n : Int) :: (u8s l ++ chs r)) ++ chs b
    rw [chs_append r b]
    simp
theorem chs_one (x : Nat × List Nat) : chs [x] = chC x := by
  obtain ⟨n, l⟩ := x
  simp [chs, chC]
theorem info_change3 : (Try.prog.info? 95).map (fun i => (i.zero, i.size, i.bytes)) = some (some (.agg Try.zeroCells95), 257, 264) := by kernel_rfl
theorem places_change : (match Try.prog.underlying 95 with | some (.struct fields) => fields.toList.mapM (fun f => (Try.prog.info? f.type).map fun i => (f.offset, i.size)) | _ => none) = some [(0, 1), (1, 256)] := by kernel_rfl
theorem fill_two (place : Nat → Option (Nat × Nat)) (Z : Array Value) (v : Value) (cs : Array Value) (m : Nat) (hv : v.cells = #[v]) (hm : cs.size = m) (hZ : Z.size = m + 1) (h0 : place 0 = some (0, 1)) (h1 : place 1 = some (1, m)) :
    Instr.fill place Z [(0, v), (1, .agg cs)] = some (v :: cs.toList).toArray := by
  unfold Instr.fill
  simp only [h0, hv]
  rw [if_neg (by rw [hZ]; simp)]
  rw [← Array.foldl_toList, Array.toList_zipIdx]
  obtain ⟨a1, a2⟩ := Great.foldl_set 0 (#[v] : Array Value).toList 0 Z
  generalize List.foldl (fun cs (x : Value × Nat) => cs.setIfInBounds (0 + x.2) x.1) Z ((#[v] : Array Value).toList.zipIdx 0) = Y at *
  unfold Instr.fill
  simp only [h1]
  rw [show (Value.agg cs).cells = cs from rfl]
  rw [if_neg (by rw [a1, hZ, hm]; simp; omega)]
  rw [← Array.foldl_toList, Array.toList_zipIdx]
  obtain ⟨b1, b2⟩ := Great.foldl_set 1 cs.toList 0 Y
  generalize List.foldl (fun cs (x : Value × Nat) => cs.setIfInBounds (1 + x.2) x.1) Y (cs.toList.zipIdx 0) = X at *
  unfold Instr.fill
  congr 1
  apply Array.ext_getElem?
  intro k
  rw [b2 k, a2 k]
  rcases k with _ | k
  · rw [if_neg (by omega), if_pos (by simp; omega)]
    simp
  · by_cases hk : k < m
    · rw [if_pos (by simp; omega)]
      simp
    · rw [if_neg (by simp; omega), if_neg (by simp)]
      rw [Array.getElem?_eq_none (by omega), List.getElem?_toArray, List.getElem?_eq_none (by simp; omega)]
theorem built_change (n : Int) (l : List Nat) (hl : l.length = 256) : Try.prog.built 95 [(0, .int .i64 n), (1, .agg (u8s l).toArray)] = some (Value.int .i64 n :: u8s l).toArray := by
  have h3 := places_change
  obtain ⟨i0, hi0, hz0, hz1, hz2⟩ := info_parts info_change3
  unfold Program.built
  rw [hi0]
  revert h3
  cases hu : Try.prog.underlying 95 with
  | none => intro h3; simp at h3
  | some d =>
    cases d <;> try (intro h3; simp at h3; done)
    case struct fields =>
      intro h3
      simp only at h3
      simp only [hz0, h3]
      exact fill_two _ _ _ _ 256 rfl (by simp [u8s_length, hl]) zeros_change rfl rfl
/-- A change that is made, as a name that nobody opens. -/
def BXg (parts : Array (Nat × Value)) : Sem Value := Instr.build 95 parts
theorem BXg_eq (parts : Array (Nat × Value)) : Instr.build 95 parts = BXg parts := rfl
theorem BX_run (n : Nat) (l : List Nat) (hl : l.length = 256) (w : World) : (BXg #[(0, .int .i64 (n : Int)), (1, .agg (u8s l).toArray)]).run Try.prog w = .ok (.agg (chC (n, l)).toArray) w :=
  run_build w _ _ _ (built_change n l hl)
/-- A row of one change. -/
def BSg (n : Nat) (parts : Array (Nat × Value)) : Sem Value := Instr.buildSlice 88 n parts
theorem BSg_eq (n : Nat) (parts : Array (Nat × Value)) : Instr.buildSlice 88 n parts = BSg n parts := rfl
theorem BSX_run (cs : Array Value) (hc : cs.size = 257) (w : World) : (BSg 1 #[(0, .agg cs)]).run Try.prog w = .ok (.slice (some ⟨w.heap.size, 0, none⟩) 1 1) (w.alloc (.cells cs 95)) := by
  obtain ⟨i0, hi0, hz0, hz1, hz2⟩ := info_parts info_change3
  have hf := Great.fill_whole (s := 257) (by omega) [.agg cs] ((Array.range (1 * 257)).map ((Value.agg Try.zeroCells95).cells[· % (Value.agg Try.zeroCells95).cells.size]!)) (by intro v hv; simp at hv; subst hv; exact hc) (by simp)
  refine run_buildSlice w _ 95 1 _ cs i0 _ Try.underlying88 hi0 hz0 (by rw [hz1]; omega) (by rw [hz1]; omega) ?_
  rw [hz1]
  have e : ([Value.agg cs].flatMap fun v => v.cells.toList).toArray = cs := by simp [Value.cells]
  rw [e] at hf
  exact hf
theorem run_arr (A : Option Addr) (n c : Nat) (h : n = 256) (w : World) : (Instr.arrayAt 93 (.slice A n c)).run Try.prog w = .ok (.pointer A) w := by
  subst h
  simp [Instr.arrayAt, Sem.run_bind, run_underlying Try.underlying93]
section
variable {w w' : World} {S : Nat → Prop} {p T B g gi : Nat} {D D' : DM} {img : List Nat} {v : Value} {wts : List (Nat × List Nat)} {arm : Bool} {left : Int}
theorem Dsk.has (h : Dsk w S p T D) (n : Int) :
    Calls Try.prog 50 #[.pointer (some ⟨p, 0, none⟩), .int .i64 n] w fun e w' => e = .returned (.bool (decide (0 ≤ n ∧ n < (T : Int)))) ∧ w = w' := by
  obtain ⟨gi, v, hD, _, _⟩ := h.ex
  exact has_any hD T h.ok.len h.ok.top n
theorem write_bad (h : Dsk w S p T D) (n : Int) (A : Option Addr) (len c : Nat) (hb : ¬ (0 ≤ n ∧ n < (T : Int)) ∨ len ≠ 256) :
    Calls Try.prog 69 #[.pointer (some ⟨p, 0, none⟩), .int .i64 n, .slice A len c] w fun e w' => e = .returned (.int .i64 1) ∧ w = w' := by
  have HH := Lib.hid (h.has n)
  rcases Classical.em (0 ≤ n ∧ n < (T : Int)) with hn | hn
  · rw [show decide (0 ≤ n ∧ n < (T : Int)) = true by simp [hn]] at HH
    have hl : ((len : Int) != 256) = true := by simp; omega
    clear h hb hn
    go_enter Try.func69, Try.ntmps69
    go_wp2_with (go_at_call 50; refine HH.out.mono ?_; rintro e w2 ⟨rfl, rfl⟩)
    go_ret
    exact ⟨rfl, rfl⟩
  · rw [show decide (0 ≤ n ∧ n < (T : Int)) = false by simp; omega] at HH
    clear h hb hn
    go_enter Try.func69, Try.ntmps69
    go_wp2_with (go_at_call 50; refine HH.out.mono ?_; rintro e w2 ⟨rfl, rfl⟩)
    go_ret
    exact ⟨rfl, rfl⟩
theorem write_out (h : Dsk w S p T D) (hu : D.use = none) (n : Int) (A : Option Addr) (c : Nat) (hn : 0 ≤ n ∧ n < (T : Int)) :
    Calls Try.prog 69 #[.pointer (some ⟨p, 0, none⟩), .int .i64 n, .slice A 256 c] w fun e w' => e = .panicked [{ v := .iface 97 (.agg #[]), recovered := false }] ∧ w = w' := by
  have HH := Lib.hid (h.has n)
  have HU := Lib.hid (use_out h hu)
  rw [show decide (0 ≤ n ∧ n < (T : Int)) = true by simp [hn]] at HH
  clear h hn hu
  go_enter Try.func69, Try.ntmps69
  go_wp2_with (first | (go_at_call 50; refine HH.out.mono ?_; rintro e w2 ⟨rfl, rfl⟩) | (go_at_call 52; refine HU.out.mono ?_; rintro e w2 ⟨rfl, rfl⟩))
  exact ⟨rfl, rfl, rfl⟩
set_option maxRecDepth 100000 in
set_option maxHeartbeats 2000000 in
theorem write_full (h : Dsk w S p T D) (hu : D.use = some D') (n : Int) (A : Option Addr) (c : Nat) (hn : 0 ≤ n ∧ n < (T : Int)) (hf : ¬ D'.wts.length < 64) :
    Calls Try.prog 69 #[.pointer (some ⟨p, 0, none⟩), .int .i64 n, .slice A 256 c] w fun e w' => e = .returned (.int .i64 2) ∧ Dsk w' S p T D' ∧ Kp S S w w' := by
  have HH := Lib.hid (h.has n)
  have HU := Lib.hid (use_ok h hu)
  rw [show decide (0 ≤ n ∧ n < (T : Int)) = true by simp [hn]] at HH
  have hf' : ((64 : Nat) : Int) ≤ (D'.wts.length : Int) := by omega
  clear h hn hu hf
  go_enter Try.func69, Try.ntmps69
  go_wp2_with (first | (go_at_call 50; refine HH.out.mono ?_; rintro e w2 ⟨rfl, rfl⟩))
  refine HU.out.mono ?_
  rintro e w2 ⟨rfl, hD, hK⟩
  have HD := Lib.hid hD
  have HK := Lib.hid hK
  obtain ⟨gi, v, hDk, s1, s2⟩ := hD.ex
  have c1 := hDk.c1
  obtain ⟨A', c', rfl, hc, hr⟩ := hDk.row
  clear hD hK hDk s1 s2 hr
  obtain ⟨m, hm⟩ : ∃ m, m = D'.wts.length := ⟨_, rfl⟩
  rw [← hm] at c1 hc hf'
  have HM := Lib.hid hm
  clear hm
  go_wp2_with fail
  go_ret
  exact ⟨rfl, HD.out, HK.out⟩
theorem Kp.of_row {S : Nat → Prop} {a w : World} {row : Option Nat} (h : a.grownBy w row) (hg : ∀ g, row = some g → S g) : Kp S S a w :=
  ⟨h.os, h.tape, h.output, h.size, fun i hi hn => h.block i hi (fun e => hn (hg i e.symm)), fun _ hs => .inl hs⟩
theorem write_end {w1 w2 : World} {A' : Option Addr} {m c' g0 cap n : Nat} {l : List Nat} {X : Array Value} (hDk : Dk w2 0 p gi D'.img (.slice A' m c') D'.wts D'.arm D'.left) (hm : m = D'.wts.length)
    (hown : w1.ownsRow 0 95 257 (.slice (some ⟨g0, 0, none⟩) (m + 1) cap) (m + 1) (chs D'.wts ++ chC (n, l))) (hgrow : (w2.drew.alloc (.cells X 95)).grownBy w1 (Value.slice A' m c').ownBlock)
    (hat : (Value.slice A' m c').ownBlock = some g0 ∨ g0 = (w2.drew.alloc (.cells X 95)).heap.size) (s1 : S gi) (s2 : ∀ b, (Value.slice A' m c').ownBlock = some b → S b) (s3 : S p) (hok : (D'.put n l).Ok T) (kp : Kp S S w w2) (hin : ∀ i, S i → i < w2.heap.size) (hlt : g0 < w1.heap.size) :
    ∃ S', Dsk (w1.setCell ⟨p, 1, none⟩ (.slice (some ⟨g0, 0, none⟩) (m + 1) cap)) S' p T (D'.put n l) ∧ Kp S S' w (w1.setCell ⟨p, 1, none⟩ (.slice (some ⟨g0, 0, none⟩) (m + 1) cap)) := by
  have hbx := hDk.box.drew.alloc (.cells X 95)
  have him := hDk.img.drew.alloc (.cells X 95)
  have hsz : (w2.drew.alloc (.cells X 95)).heap.size = w2.heap.size + 1 := by simp
  have hpl := hDk.box.lt
  have hil := hDk.img.lt
  have hgp : g0 ≠ p := by
    rcases hat with h | h
    · intro e; subst e; exact hDk.far h
    · omega
  have hgi : g0 ≠ gi := by
    rcases hat with h | h
    · intro e; subst e; exact hDk.far' h
    · omega
  have hgs : S g0 ∨ w.heap.size ≤ g0 := by
    rcases hat with h | h
    · exact .inl (s2 _ h)
    · have := kp.size
      exact .inr (by omega)
  have hbx1 : Bk w1 p 90 #[.slice (some ⟨gi, 0, none⟩) D'.img.length D'.img.length, .slice A' m c', .bool D'.arm, .int .i64 D'.left] := (hgrow.block p hbx.lt (fun e => hDk.far e.symm)).trans hbx
  have him1 : Bk w1 gi 5 (u8s D'.img).toArray := (hgrow.block gi him.lt (fun e => hDk.far' e.symm)).trans him
  have hput := hbx1.put 1 (.slice (some ⟨g0, 0, none⟩) (m + 1) cap)
  have k1 : Kp S S w2 w1 := (((Kp.refl S w2).drew).alloc _).trans (Kp.of_row hgrow s2)
  have k2 := (kp.trans k1).setCell (p := ⟨p, 1, none⟩) (.inl s3) (.slice (some ⟨g0, 0, none⟩) (m + 1) cap)
  refine ⟨fun i => S i ∨ i = g0, ⟨⟨gi, .slice (some ⟨g0, 0, none⟩) (m + 1) cap, ⟨?_, him1.far hDk.ne.symm _, ?_, hDk.ne, hDk.lo, hDk.lo', ?_, ?_, hok.full⟩, .inl s1, ?_⟩, .inl s3, hok, ?_⟩, k2.mono (fun _ h => h) (fun i hi => ?_)⟩
  · simpa [DM.put] using hput
  · have := ownsRow_setCell_other hown (a := ⟨p, 1, none⟩) (by simp [Value.ownBlock, hgp]) (.slice (some ⟨g0, 0, none⟩) (m + 1) cap)
    rw [← chs_one, ← chs_append] at this
    simpa [DM.put, hm] using this
  · simp [Value.ownBlock, hgp]
  · simp [Value.ownBlock, hgi]
  · intro b hb
    simp [Value.ownBlock] at hb
    exact .inr hb.symm
  · rintro i (hi | rfl)
    · have h1 := hin i hi
      have h2 := k1.size
      simp
      omega
    · simpa using hlt
  · rcases hi with hi | rfl
    · exact .inl hi
    · exact .inr hgs
/-- 256 bytes that are loaded, as a name that nobody opens. -/
def LDg (x : Value) : Sem Value := Instr.loadAt 93 x
theorem LDg_eq (x : Value) : Instr.loadAt 93 x = LDg x := rfl
theorem LD_run (b off : Nat) (l : List Nat) (hl : l.length = 256) (w : World) (h : w.rangeAt b off (u8s l)) : (LDg (.pointer (some ⟨b, off, none⟩))).run Try.prog w = .ok (.agg (u8s l).toArray) w :=
  run_loadAt_mid w b off _ (u8s l) _ h Try.underlying93 rfl (by rw [u8s_length, hl]; kernel_rfl)
attribute [local go_sem ↓] BXg_eq BSg_eq LDg_eq
set_option maxRecDepth 100000 in
set_option maxHeartbeats 2000000 in
theorem write_ok (h : Dsk w S p T D) (hu : D.use = some D') (n : Nat) (A : Option Addr) (c : Nat) (l : List Nat) (hl : l.length = 256) (hS : Seg w A (u8s l)) (hA : ∀ a, A = some a → ¬ S a.block) (hn : n < T) (hf : D'.wts.length < 64) :
    Calls Try.prog 69 #[.pointer (some ⟨p, 0, none⟩), .int .i64 (n : Int), .slice A 256 c] w fun e w' => e = .returned (.int .i64 0) ∧ ∃ S', Dsk w' S' p T (D'.put n l) ∧ Kp S S' w w' := by
  have HH := Lib.hid (h.has (n : Int))
  have HU := Lib.hid (use_ok h hu)
  rw [show decide (0 ≤ (n : Int) ∧ (n : Int) < (T : Int)) = true by simp; omega] at HH
  obtain ⟨b, off, rfl, hbl, hcell⟩ := hS (by intro e; have := congrArg List.length e; rw [u8s_length, hl] at this; simp at this)
  have hSb : ¬ S b := hA _ rfl
  have HL := Lib.hid hl
  have HSb := Lib.hid hSb
  have HBl := Lib.hid hbl
  have HR := Lib.hid (show w.rangeAt b off (u8s l) from fun j u hj => by
    have hj' := (List.getElem?_eq_some_iff.1 hj).1
    rw [hcell j hj', hj])
  have HN := Lib.hid hn
  have HF := Lib.hid hf
  clear h hn hu hS hA hcell hbl hSb hf hl
  go_enter Try.func69, Try.ntmps69
  go_wp2_with (first | (go_at_call 50; refine HH.out.mono ?_; rintro e w2 ⟨rfl, rfl⟩))
  refine HU.out.mono ?_
  rintro e w2 ⟨rfl, hD, hK⟩
  have HD := Lib.hid hD
  have HK := Lib.hid hK
  obtain ⟨gi, v, hDk, s1, s2⟩ := hD.ex
  have c1 := hDk.c1
  have f1 := hDk.box.frozen 1
  have HDk := Lib.hid hDk
  have HS1 := Lib.hid s1
  have HS2 := Lib.hid s2
  obtain ⟨A', c', hv, hc, hr⟩ := hDk.row
  have HV := Lib.hid hv
  clear hD hK hDk s1 s2 hr
  obtain ⟨m, hm⟩ : ∃ m, m = D'.wts.length := ⟨_, rfl⟩
  rw [hv, ← hm] at c1
  rw [← hm] at hc
  have hm64 : (m : Int) < 64 := by have := HF.out; omega
  have HM := Lib.hid hm
  clear hm hv
  have HR2 := Lib.hid (show w2.rangeAt b off (u8s l) from fun j u hj => by
    rw [HK.out.cell HBl.out HSb.out]
    exact HR.out j u hj)
  go_wp2_with fail
  obtain ⟨i0, hi0, hz0, hz1, hz2⟩ := info_parts info_change3
  have hld := LD_run b off l HL.out w2.drew ((World.rangeAt_drew _ _ _ _).2 HR2.out)
  have hbr := BX_run n l HL.out
  have hbr2 := BSX_run (chC (n, l)).toArray (by rw [List.size_toArray, chC_length _ HL.out])
  have harr := run_arr (some ⟨b, off, none⟩) 256 c rfl
  obtain ⟨X, hX⟩ : ∃ X, X = (chC (n, l)).toArray := ⟨_, rfl⟩
  have HXt := Lib.hid hX
  rw [← hX] at hbr hbr2
  have HBx := Lib.hid (HDk.out.box.drew.alloc (.cells X 95))
  have cb : (w2.drew.alloc (.cells X 95)).cell? ⟨p, 1, none⟩ = some (.slice A' m c') := by
    rw [HBx.out.cell 1, HV.out, HM.out]
    rfl
  have cb2 : (w2.alloc (.cells X 95)).cell? ⟨p, 1, none⟩ = some (.slice A' m c') := cb
  have HFar := Lib.hid (show some p ≠ (Value.slice A' m c').ownBlock from by
    have := HDk.out.far
    rw [HV.out, ← HM.out] at this
    exact fun e => this e.symm)
  have HOWN := Lib.hid (show (w2.drew.alloc (.cells X 95)).ownsRow 0 95 257 (.slice A' m c') m (chs D'.wts) from by
    have := HDk.out.own.drew.alloc (.cells X 95)
    rw [HV.out] at this
    rw [HM.out]
    exact this)
  have HNW := Lib.hid (show ∀ j u, (chC (n, l))[j]? = some u → (w2.drew.alloc (.cells X 95)).cell? ((⟨w2.heap.size, 0, none⟩ : Addr).add j) = some u from fun j u hj => by
    rw [Addr.add_mid, Nat.zero_add, show w2.heap.size = w2.drew.heap.size from rfl, (Bk.new w2.drew 95 X).cell j, hX]
    simpa using hj)
  have HLC := Lib.hid (show (chC (n, l)).length = 1 * 257 by rw [chC_length _ HL.out])
  have H63 := Lib.hid (show m + 1 ≤ maxLen by simp only [maxLen]; omega)
  have hmb : (m + 1) * 264 ≤ 140737488355328 := by omega
  have hap : ¬ p = w2.heap.size := by have := HDk.out.box.lt; omega
  clear hX
  go_region_law (first
      | (refine step_append_lies _ (by rfl) _ _ _ (by rfl) 0 95 i0 _ 257 264 Try.underlying88 hi0 hz0 hz1 hz2 zeros_change (by omega) _ m (chs D'.wts) (by rfl) HOWN.out ⟨w2.heap.size, 0, none⟩ 1 1 (chC (n, l)) (by rfl) HLC.out HNW.out (chC_one _) (by omega) H63.out hmb (by omega) _ rfl ?_; intro g cap w1 hown hgrow hat hlt; have HO2 := Lib.hid hown; have HG2 := Lib.hid hgrow; have HAT := Lib.hid hat; have HLT := Lib.hid hlt; clear hown hgrow hat hlt; have k1 : w1.cell? ⟨p, 1, none⟩ = some (.slice A' m c') := (World.cell?_of_block (HG2.out.block p HBx.out.lt HFar.out)).trans cb; have k2 : w1.frozen? ⟨p, 1, none⟩ = false := (World.frozen?_of_block (HG2.out.block p HBx.out.lt HFar.out)).trans (HBx.out.frozen 1)))
  all_goals
    go_wp2_with fail
    go_ret
    exact ⟨rfl, write_end (by have := HDk.out; rw [HV.out] at this; rw [← HM.out] at this; exact this) HM.out HO2.out HG2.out HAT.out HS1.out (by have := HS2.out; rw [HV.out, ← HM.out] at this; exact this) HD.out.self (HD.out.ok.put n l HN.out HL.out HF.out) HK.out HD.out.inn HLT.out⟩
end
end Go.Proofs.Ytmgbmnbjionapaa
