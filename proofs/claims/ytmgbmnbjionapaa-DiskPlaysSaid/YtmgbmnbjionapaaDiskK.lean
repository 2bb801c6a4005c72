/- Play: a row of calls on a new disk. Conditions: the calls lie in memory; at most a million. -/
import Derived.Test.YtmgbmnbjionapaaDiskJ
namespace Go.Proofs.Ytmgbmnbjionapaa
open Go.RowKit

/-- A call's cells, as a list. -/
def OpM.cl (o : OpM) (A : Option Addr) (c : Nat) : List Value := [.int .i64 o.kind, .int .i64 o.block, .slice A o.data.length c, .int .u64 (o.keep : Int), .int .i64 o.tear, .int .i64 o.sectors]
theorem cl_one (o : OpM) (A : Option Addr) (c : Nat) : ∀ u ∈ o.cl A c, u.oneCell' = true := by
  intro u hu
  simp only [OpM.cl, List.mem_cons, List.not_mem_nil, or_false] at hu
  rcases hu with rfl | rfl | rfl | rfl | rfl | rfl <;> rfl
/-- A row of calls in memory. -/
def OpsAt (w : World) (A : Option Addr) (ops : List OpM) : Prop :=
  ∀ k (hk : k < ops.length), ∃ b off Ad c, A = some ⟨b, off, none⟩ ∧ w.rangeAt b (off + k * 6) (ops[k].cl Ad c) ∧ Seg w Ad (u8s ops[k].data) ∧ ops[k].data.length ≤ c ∧ c ≤ maxLen ∧ ops[k].keep < 18446744073709551616 ∧ ops[k].data.length ≤ 140737488355328
theorem rangeAt_bel {w w' : World} {b o : Nat} {cs : List Value} (h : w.rangeAt b o cs) (hb : Below w.heap.size w w') : w'.rangeAt b o cs := fun j v hv => by
  have := h j v hv
  rw [← this]
  exact World.cell?_of_block (hb.block b (World.block_lt_of_cell? w _ this))
theorem OpsAt.bel {w w' : World} {A : Option Addr} {ops : List OpM} (h : OpsAt w A ops) (hb : Below w.heap.size w w') : OpsAt w' A ops := fun k hk => by
  obtain ⟨b, off, Ad, c, h1, h2, h3, h4⟩ := h k hk
  exact ⟨b, off, Ad, c, h1, rangeAt_bel h2 hb, h3.bel hb, h4⟩
theorem info_rowD : (Try.prog.info? 26).map (fun i => (i.zero, i.size, i.bytes)) = some (some (.slice none 0 0), 1, 24) := by kernel_rfl
theorem info_errno : (Try.prog.info? 40).map (fun i => (i.zero, i.size, i.bytes)) = some (some (.int .i64 0), 1, 8) := by kernel_rfl
theorem size_op : (Try.prog.info? 36).map (·.size) = some 6 := by kernel_rfl
theorem made_one (z : Value) (n : Nat) : madeCells #[z] n = (List.replicate n z).toArray := by
  apply Array.ext'
  rw [toList_madeCells_one]
theorem make_rows (w : World) (n : Nat) (hn : n ≤ 1000000) : (Instr.makeSlice 24 (.int .i64 (n : Int)) (.int .i64 (n : Int))).run Try.prog w = .ok (.slice (some ⟨w.heap.size, 0, none⟩) n n) (w.alloc (.cells (List.replicate n (Value.slice none 0 0)).toArray 26)) := by
  obtain ⟨i0, hi0, hz0, hz1, hz2⟩ := info_parts info_rowD
  have := run_make (P := Try.prog) w 24 26 i0 (.slice none 0 0) Try.underlying24 hi0 hz0 .i64 .i64 n n (by omega) (by omega) (by rw [hz2]; omega) (by omega)
  rw [hz1, Nat.mul_one, Int.toNat_natCast] at this
  rw [this, show (Value.slice none 0 0).cells = #[Value.slice none 0 0] from rfl, made_one]
theorem make_errs (w : World) (n : Nat) (hn : n ≤ 1000000) : (Instr.makeSlice 25 (.int .i64 (n : Int)) (.int .i64 (n : Int))).run Try.prog w = .ok (.slice (some ⟨w.heap.size, 0, none⟩) n n) (w.alloc (.cells (List.replicate n (Value.int .i64 0)).toArray 40)) := by
  obtain ⟨i0, hi0, hz0, hz1, hz2⟩ := info_parts info_errno
  have := run_make (P := Try.prog) w 25 40 i0 (.int .i64 0) Try.underlying25 hi0 hz0 .i64 .i64 n n (by omega) (by omega) (by rw [hz2]; omega) (by omega)
  rw [hz1, Nat.mul_one, Int.toNat_natCast] at this
  rw [this, show (Value.int .i64 0).cells = #[Value.int .i64 0] from rfl, made_one]
section
variable {w w' : World}
set_option maxRecDepth 100000 in
theorem play_no (T : Int) (hT : ¬ (1 ≤ T ∧ T ≤ 2048)) (arm : Int) (v : Value) :
    Calls Try.prog 14 #[.int .i64 T, .int .i64 arm, v] w fun e w' => e = .returned (.tuple #[.slice none 0 0, .slice none 0 0, .slice none 0 0]) ∧ Below w.heap.size w w' := by
  have HN := Lib.hid (dnew_no T hT w)
  clear hT
  go_enter Try.func14, Try.ntmps14
  go_wp2_with (go_at_call 25; refine HN.out.mono ?_; rintro e w2 ⟨rfl, hb2⟩; have HB := Lib.hid hb2; clear hb2)
  exact bodyPost_ret (v := .tuple #[.slice none 0 0, .slice none 0 0, .slice none 0 0]) (by simp [results, Try.results14, go_sem]) rfl ⟨rfl, HB.out.alloc HB.out.size _⟩
theorem plW_start {w w3 : World} {S : Nat → Prop} {bd p T : Nat} {D : DM} (n : Nat) (hD : Dsk w3 S p T D) (hd : Bk w3 bd 43 #[.pointer (some ⟨p, 0, none⟩)]) (hS : ∀ i, S i → w.heap.size ≤ i) (hn : ¬ S bd) (hl : w.heap.size ≤ bd) (hb : Below w.heap.size w w3) :
    PlW w ((((w3.alloc (.cells (Array.replicate n (Value.slice none 0 0)) 26)).alloc (.cells #[.slice (some ⟨w3.heap.size, 0, none⟩) n n] 24)).alloc (.cells (Array.replicate n (Value.int .i64 0)) 40)).alloc (.cells #[.slice (some ⟨w3.heap.size + 1 + 1, 0, none⟩) n n] 25))
      S bd (w3.heap.size + 1) (w3.heap.size + 1 + 1 + 1) w3.heap.size (w3.heap.size + 1 + 1) p T n D [] [] := by
  have e1 : (w3.alloc (.cells (Array.replicate n (Value.slice none 0 0)) 26)).heap.size = w3.heap.size + 1 := by simp
  have e2 : ((w3.alloc (.cells (Array.replicate n (Value.slice none 0 0)) 26)).alloc (.cells #[.slice (some ⟨w3.heap.size, 0, none⟩) n n] 24)).heap.size = w3.heap.size + 1 + 1 := by simp
  have e3 : (((w3.alloc (.cells (Array.replicate n (Value.slice none 0 0)) 26)).alloc (.cells #[.slice (some ⟨w3.heap.size, 0, none⟩) n n] 24)).alloc (.cells (Array.replicate n (Value.int .i64 0)) 40)).heap.size = w3.heap.size + 1 + 1 + 1 := by simp
  have b1 := Bk.new w3 26 (Array.replicate n (Value.slice none 0 0))
  have b2 := Bk.new (w3.alloc (.cells (Array.replicate n (Value.slice none 0 0)) 26)) 24 #[.slice (some ⟨w3.heap.size, 0, none⟩) n n]
  have b3 := Bk.new ((w3.alloc (.cells (Array.replicate n (Value.slice none 0 0)) 26)).alloc (.cells #[.slice (some ⟨w3.heap.size, 0, none⟩) n n] 24)) 40 (Array.replicate n (Value.int .i64 0))
  have b4 := Bk.new (((w3.alloc (.cells (Array.replicate n (Value.slice none 0 0)) 26)).alloc (.cells #[.slice (some ⟨w3.heap.size, 0, none⟩) n n] 24)).alloc (.cells (Array.replicate n (Value.int .i64 0)) 40)) 25 #[.slice (some ⟨w3.heap.size + 1 + 1, 0, none⟩) n n]
  rw [e1] at b2
  rw [e2] at b3
  rw [e3] at b4
  have hdl := hd.lt
  have hsz := hb.size
  have hin := hD.inn
  refine ⟨(((hD.alloc _).alloc _).alloc _).alloc _, (((hd.alloc _).alloc _).alloc _).alloc _, (b2.alloc _).alloc _, b4, ⟨[], rfl, ?_, fun j hj => by simp at hj⟩, ?_, Nat.zero_le _, rfl, by omega, ?_, (((hb.alloc hb.size _).alloc (by rw [e1]; omega) _).alloc (by rw [e2]; omega) _).alloc (by rw [e3]; omega) _, hS⟩
  · simpa using ((b1.alloc _).alloc _).alloc _
  · simpa using b3.alloc _
  · rintro i (rfl | rfl | rfl | rfl | rfl)
    · exact ⟨hn, hl⟩
    all_goals exact ⟨fun hs => by have := hin _ hs; omega, by omega⟩
theorem row_at (vs : List Value) (n k : Nat) (z : Value) (hk : vs.length = k) (hn : k < n) : (vs ++ List.replicate (n - k) z).toArray[k]? = some z := by
  rw [List.getElem?_toArray, List.getElem?_append_right (by omega), hk, Nat.sub_self, List.getElem?_replicate]
  simp
  omega
theorem set_swap (w : World) (p q : Addr) (h : p.block ≠ q.block) (u v : Value) : (w.setCell p u).setCell q v = (w.setCell q v).setCell p u := by
  unfold World.setCell
  congr 1
  apply Array.ext_getElem?
  intro i
  simp only [Array.getElem?_modify]
  by_cases h1 : p.block = i
  · have h2 : ¬ q.block = i := fun e => h (h1.trans e.symm)
    simp [h1, h2]
  · simp [h1]
theorem row_new (w : World) (X : Obj) (Z C : Array Value) (t : TypeId) : ((w.alloc X).alloc (.cells Z t)).setRow (w.heap.size + 1) C = (w.alloc X).alloc (.cells C t) := by
  have := World.setRow_alloc_new (w.alloc X) Z C t
  simpa using this
section
variable {w wr : World} {S : Nat → Prop} {bd br be gr ge p T n : Nat} {D : DM} {rs : List (List Nat)} {es : List Int}
/-- What Guard leaves behind a call in Play: the loop's variable, and what Play keeps. -/
def PlayR (w wr : World) (bd br be gr ge p T n k : Nat) (o : OpM) (D : DM) (rs : List (List Nat)) (es : List Int) (b : Bool) (w' : World) : Prop :=
  Bk w' wr.heap.size 3 #[.int .i64 (k : Int)] ∧ ∃ S', if b then doR D T o = none ∧ PlW w w' S' bd br be gr ge p T n D rs es else ∃ D' r en, doR D T o = some (D', r, en) ∧ PlW w w' S' bd br be gr ge p T n D' (rs ++ [r]) (es ++ [en])
set_option maxHeartbeats 1000000 in
theorem play_round (h : PlW w wr S bd br be gr ge p T n D rs es) (k : Nat) (hk : rs.length = k) (hn : k < n) (o : OpM) (A : Option Addr) (c : Nat) (hS : Seg wr A (u8s o.data)) (hA : o.data ≠ [] → ∀ a, A = some a → ¬ S a.block) (hc : o.data.length ≤ c) (hcm : c ≤ maxLen) (hkp : o.keep < 18446744073709551616) :
    Calls Try.prog 45 #[.pointer (some ⟨bd, 0, none⟩), .pointer (some ⟨wr.heap.size + 1, 0, none⟩), .pointer (some ⟨br, 0, none⟩), .pointer (some ⟨wr.heap.size, 0, none⟩), .pointer (some ⟨be, 0, none⟩)]
      (((wr.alloc (.cells #[.int .i64 (k : Int)] 3)).alloc (.cells (o.cells A c) 36)).alloc (.cells #[.bool false] 4))
      (GPost ((wr.alloc (.cells #[.int .i64 (k : Int)] 3)).alloc (.cells (o.cells A c) 36)).heap.size (PlayR w wr bd br be gr ge p T n k o D rs es)) := by
  have e1 : (wr.alloc (.cells #[.int .i64 (k : Int)] 3)).heap.size = wr.heap.size + 1 := by simp
  have e2 : ((wr.alloc (.cells #[.int .i64 (k : Int)] 3)).alloc (.cells (o.cells A c) 36)).heap.size = wr.heap.size + 1 + 1 := by simp
  have e3 : (((wr.alloc (.cells #[.int .i64 (k : Int)] 3)).alloc (.cells (o.cells A c) 36)).alloc (.cells #[.bool false] 4)).heap.size = wr.heap.size + 1 + 1 + 1 := by simp
  have hi := ((Bk.new wr 3 #[.int .i64 (k : Int)]).alloc (.cells (o.cells A c) 36)).alloc (.cells #[.bool false] 4)
  have ho := (Bk.new (wr.alloc (.cells #[.int .i64 (k : Int)] 3)) 36 (o.cells A c)).alloc (.cells #[.bool false] 4)
  have hb := Bk.new ((wr.alloc (.cells #[.int .i64 (k : Int)] 3)).alloc (.cells (o.cells A c) 36)) 4 #[.bool false]
  have hbel : Below wr.heap.size wr (((wr.alloc (.cells #[.int .i64 (k : Int)] 3)).alloc (.cells (o.cells A c) 36)).alloc (.cells #[.bool false] 4)) :=
    (((Below.refl _ _).alloc (Nat.le_refl _) _).alloc (by rw [e1]; omega) _).alloc (by rw [e2]; omega) _
  rw [e1] at ho
  rw [e2] at hb ⊢
  generalize ((wr.alloc (.cells #[.int .i64 (k : Int)] 3)).alloc (.cells (o.cells A c) 36)).alloc (.cells #[.bool false] 4) = w6 at *
  have h6 := h.beyond hbel
  obtain ⟨vs, v1, v2, v3⟩ := h6.rows
  obtain ⟨m1, m2, m3, m4, m5, m6, m7, m8, m9, m10⟩ := h.n1
  have hin := h.dsk.inn
  obtain ⟨vs0, _, v20, _⟩ := h.rows
  have l1 := h.d.lt
  have l2 := h.r.lt
  have l3 := h.e.lt
  have l4 := v20.lt
  have l5 := h.errs.lt
  have hno := fun i hi => (h.out i hi).1
  have nS : ∀ i, wr.heap.size ≤ i → ¬ S i := fun i hi hs => by have := hin i hs; omega
  have hP : PlS w6 bd (wr.heap.size + 1) br wr.heap.size be gr ge p o A c k n := ⟨h6.d, ho, h6.r, hi, h6.e⟩
  cases hd : doR D T o with
  | none =>
    refine (play1_none h6.dsk hP hc hcm hd).mono ?_
    rintro e w' ⟨rfl, hb'⟩
    have hb2 := hb.bel hb'
    have hbb : Below wr.heap.size wr ((w'.alloc (.cells #[] 97)).setCell ⟨wr.heap.size + 1 + 1, 0, none⟩ (.bool true)) := by
      refine ((hbel.trans (hb'.mono (by omega))).alloc (by have := hb'.size; omega) _).setCell ?_ _
      show wr.heap.size ≤ wr.heap.size + 1 + 1
      omega
    refine ⟨hb2, .inr ⟨rfl, ?_, S, ?_⟩⟩
    · exact ((hi.bel hb').alloc _).far (by show wr.heap.size ≠ wr.heap.size + 1 + 1; omega) _
    · rw [if_pos rfl]
      exact ⟨hd, h.beyond hbb⟩
  | some x =>
    obtain ⟨D', r, en⟩ := x
    refine (play1_some h6.dsk hP hc hcm (hS.bel hbel) hA hkp ⟨hno _ (.inl rfl), nS _ (by omega), hno _ (.inr (.inl rfl)), nS _ (by omega), hno _ (.inr (.inr (.inl rfl)))⟩ (hno _ (.inr (.inr (.inr (.inl rfl))))) (hno _ (.inr (.inr (.inr (.inr rfl)))))
      ⟨m3, by omega, m6, by omega, m8⟩ ⟨m4, by omega, m7, by omega, m9⟩ m10 _ _ v2 h6.errs (by simp [v1]; have := h.lenr; omega) (by simp; have := h.lene; have := h.lenr; omega) hn hd).mono ?_
    rintro e w' ⟨S', A', c', w2, rfl, q1, q2, q3, q4, q5, rfl⟩
    have nS' : ¬ S' (wr.heap.size + 1 + 1) := q2.far (by omega) (nS _ (by omega))
    have nSi' : ¬ S wr.heap.size := nS _ (by omega)
    have hb2 : Bk w2 (wr.heap.size + 1 + 1) 4 #[.bool false] := q2.bk hb (nS _ (by omega))
    have hi2 := q2.bk hi nSi'
    refine ⟨(hb2.far (by show wr.heap.size + 1 + 1 ≠ gr; omega) _).far (by show wr.heap.size + 1 + 1 ≠ ge; omega) _, .inl ⟨rfl, ?_, S', ?_⟩⟩
    · exact ((hi2.far (by show wr.heap.size ≠ gr; omega) _).far (by show wr.heap.size ≠ ge; omega) _).far (by show wr.heap.size ≠ wr.heap.size + 1 + 1; omega) _
    · rw [if_neg (by simp)]
      refine ⟨D', r, en, hd, ?_⟩
      have hkb : Kp (fun i => i = wr.heap.size + 1 + 1) (fun _ => False) w2 (w2.setCell ⟨wr.heap.size + 1 + 1, 0, none⟩ (.bool false)) :=
        ((Kp.refl (fun i => i = wr.heap.size + 1 + 1) w2).setCell (p := ⟨wr.heap.size + 1 + 1, 0, none⟩) (.inl rfl) _).mono (fun _ h => h) (fun _ hf => hf.elim)
      have hk1 : Kp S S' wr (w2.setCell ⟨wr.heap.size + 1 + 1, 0, none⟩ (.bool false)) :=
        ((Kp.of_bel hbel S).trans q2).setCell (p := ⟨wr.heap.size + 1 + 1, 0, none⟩) (.inr (by show wr.heap.size ≤ wr.heap.size + 1 + 1; omega)) _
      have ht := h.turned hk1 (q1.kept hkb (fun i hi e => nS' (e ▸ hi)))
      have hp := ht.push k hk hn A' c' r en q5 (hkb.seg q3 (fun a e => by have := (q4 a e).1; omega)) (fun a e => by
        obtain ⟨a1, a2, a3⟩ := q4 a e
        refine ⟨by have := h.bel.size; omega, a2, ?_, Nat.lt_of_lt_of_le a3 hkb.size⟩
        rintro (e | e | e | e | e) <;> omega)
      rw [set_swap _ ⟨ge, k, none⟩ ⟨wr.heap.size + 1 + 1, 0, none⟩ (by show ge ≠ wr.heap.size + 1 + 1; omega), set_swap _ ⟨gr, k, none⟩ ⟨wr.heap.size + 1 + 1, 0, none⟩ (by show gr ≠ wr.heap.size + 1 + 1; omega)]
      exact hp
end
/-- What Play comes to. -/
def PlayEnd (w0 : World) (T n : Nat) (x : DM × List (List Nat) × List Int) (e : Ending) (w' : World) : Prop :=
  ∃ S bd br be gr ge p Ai ci, e = .returned (.tuple #[.slice (some ⟨gr, 0, none⟩) n n, .slice (some ⟨ge, 0, none⟩) n n, .slice Ai (T * 256) ci]) ∧ PlW w0 w' S bd br be gr ge p T n x.1 x.2.1 x.2.2 ∧ Seg w' Ai (u8s x.1.img) ∧ T * 256 ≤ ci ∧ (∀ a, Ai = some a → w0.heap.size ≤ a.block)
set_option maxRecDepth 100000 in
set_option maxHeartbeats 4000000 in
theorem play_ok (T : Nat) (h1 : 1 ≤ T) (h2 : T ≤ 2048) (arm : Int) (ha : arm < 9223372036854775808) (A : Option Addr) (c : Nat) (ops : List OpM) (n : Nat) (hn : n = ops.length) (hn2 : n ≤ 1000000) (hnc : n ≤ c) (hO : OpsAt w A ops) :
    Calls Try.prog 14 #[.int .i64 (T : Int), .int .i64 arm, .slice A n c] w (PlayEnd w T n (plS T ((DM.new T).armed arm) ops n)) := by
  have HN := Lib.hid (new_ok T h1 h2 w)
  have HO := Lib.hid hO
  have HL := Lib.hid hn
  have hmr := fun w => make_rows w n hn2
  have hme := fun w => make_errs w n hn2
  have hmf : ∀ (fn : Fn) (first cap : Array Value) (w : World), (Instr.makeFunc fn first cap).run Try.prog w = .ok (.func fn first cap) w := fun _ _ _ _ => rfl
  clear hO hn
  go_enter Try.func14, Try.ntmps14
  go_wp2_with fail
  refine HN.out.mono ?_
  rintro e w1 ⟨p, S, rfl, hD, hS, hB⟩
  have HS := Lib.hid hS
  have HB := Lib.hid hB
  have HA := Lib.hid ((hD.alloc (.cells #[.pointer (some ⟨p, 0, none⟩)] 43)).arm arm ha)
  have HSD := Lib.hid (show ¬ S w1.heap.size from fun hs => by have := hD.inn _ hs; omega)
  have HX := Lib.hid (Bk.new w1 43 #[.pointer (some ⟨p, 0, none⟩)])
  have HB2 := Lib.hid (hB.alloc hB.size (.cells #[.pointer (some ⟨p, 0, none⟩)] 43))
  have HBD := Lib.hid (show w.heap.size ≤ w1.heap.size from hB.size)
  clear hD hS hB
  go_wp2_with fail
  generalize w1.alloc (.cells #[.pointer (some ⟨p, 0, none⟩)] 43) = w2 at *
  generalize w1.heap.size = bd at *
  refine HA.out.mono ?_
  rintro e w3 ⟨rfl, hD3, hk3⟩
  have HX3 := Lib.hid (hk3.bk HX.out HSD.out)
  have HD3 := Lib.hid hD3
  have HK3 := Lib.hid hk3
  have HB3 := Lib.hid (HB2.out.trans (hk3.below HS.out HB2.out.size))
  clear hD3 hk3
  have HP := Lib.hid (plW_start n HD3.out HX3.out HS.out HSD.out HBD.out HB3.out)
  clear HX HA
  go_wp2_with fail
  generalize ((((w3.alloc (.cells (Array.replicate n (Value.slice none 0 0)) 26)).alloc (.cells #[.slice (some ⟨w3.heap.size, 0, none⟩) n n] 24)).alloc (.cells (Array.replicate n (Value.int .i64 0)) 40)).alloc (.cells #[.slice (some ⟨w3.heap.size + 1 + 1, 0, none⟩) n n] 25)) = w4 at *
  generalize w3.heap.size + 1 + 1 + 1 = be at *
  generalize w3.heap.size + 1 + 1 = ge at *
  generalize w3.heap.size + 1 = br at *
  generalize w3.heap.size = gr at *
  have HOP := Lib.hid (show OpsAt w4 A ops from HO.out.bel HP.out.bel)
  have hnm : (n : Int) ≤ 1000000 := by omega
  go_loopw [33] (fun i wr => ∃ k : Nat, k ≤ n ∧ i = .int .i64 k ∧ ∃ S, Hid (PlW w wr S bd br be gr ge p T n (plS T ((DM.new T).armed arm) ops k).1 (plS T ((DM.new T).armed arm) ops k).2.1 (plS T ((DM.new T).armed arm) ops k).2.2)) (fun i _ => n - (intOf i).toNat)
  case atStart => exact ⟨0, Nat.zero_le _, rfl, S, HP⟩
  case round =>
    obtain ⟨k, hk, rfl, S1, HW⟩ := hrel
    by_cases hlt : k < n
    · have hkl : k < ops.length := by rw [← HL.out]; exact hlt
      obtain ⟨b, off, Ad, ca, rfl, hra0, hsd0, hca, hcm, hkp, _⟩ := HO.out k hkl
      have hra := rangeAt_bel hra0 HW.out.bel
      have hsd := hsd0.bel HW.out.bel
      have HSD0 := Lib.hid hsd0
      clear hra0 hsd0
      have HG := Lib.hid (show ops.getD k ⟨0, 0, [], 0, 0, 0⟩ = ops[k] by simp [List.getD, hkl])
      have HSU := Lib.hid (show plS T ((DM.new T).armed arm) ops (k + 1) = ((plStep T (plS T ((DM.new T).armed arm) ops k).1 ops[k]).1, (plS T ((DM.new T).armed arm) ops k).2.1 ++ [(plStep T (plS T ((DM.new T).armed arm) ops k).1 ops[k]).2.1], (plS T ((DM.new T).armed arm) ops k).2.2 ++ [(plStep T (plS T ((DM.new T).armed arm) ops k).1 ops[k]).2.2]) by rw [← HG.out]; rfl)
      have HLN := Lib.hid (plS_len T ((DM.new T).armed arm) ops k).1
      generalize plS T ((DM.new T).armed arm) ops k = x at *
      generalize ops[k] = o at *
      have i1 : (k : Int) < (n : Int) := by omega
      have HRA := Lib.hid hra
      have HSD := Lib.hid hsd
      have HSO := Lib.hid (show (Try.prog.info? 36).map (·.size) = some (o.cl Ad ca).length by rw [size_op]; rfl)
      clear hra hsd
      have HLC := Lib.hid (show (o.cl Ad ca).toArray = o.cells Ad ca from rfl)
      have HPR := Lib.hid (play_round HW.out k HLN.out hlt o Ad ca HSD.out (fun hne a ha hs => by
        obtain ⟨b', off', e1, e2, _⟩ := HSD0.out (by intro e; have := congrArg List.length e; rw [u8s_length] at this; exact hne (List.eq_nil_of_length_eq_zero this))
        rw [ha] at e1
        injection e1 with e1
        subst e1
        have := HW.out.sge _ hs
        simp at this
        omega) hca hcm hkp)
      have HB4 := Lib.hid (show ((wr.alloc (.cells #[.int .i64 (k : Int)] 3)).alloc (.cells #[.int .i64 0, .int .i64 0, .slice none 0 0, .int .u64 0, .int .i64 0, .int .i64 0] 36)).heap[wr.heap.size + 1]? = some (.cells #[.int .i64 0, .int .i64 0, .slice none 0 0, .int .u64 0, .int .i64 0, .int .i64 0] 36 (0, 0)) from by
        have := Bk.new (wr.alloc (.cells #[.int .i64 (k : Int)] 3)) 36 #[.int .i64 0, .int .i64 0, .slice none 0 0, .int .u64 0, .int .i64 0, .int .i64 0]
        rw [show (wr.alloc (.cells #[.int .i64 (k : Int)] 3)).heap.size = wr.heap.size + 1 by simp] at this
        exact this)
      have HS2 := Lib.hid (show (Try.prog.info? 36).map (·.size) = some (o.cl Ad ca).toArray.size by rw [size_op]; rfl)
      have HO1 := Lib.hid (all_oneCell_toArray (cl_one o Ad ca))
      have HZ6 := Lib.hid (show (#[.int .i64 0, .int .i64 0, .slice none 0 0, .int .u64 0, .int .i64 0, .int .i64 0] : Array Value).size = (o.cl Ad ca).toArray.size by rfl)
      have HGU := Lib.hid (guard_any 45 _ _ _ (fun _ => rfl) HPR.out)
      go_wp2_with (first
        | (with_reducible refine wpList_load_mid rfl 36 _ rfl b (off + k * 6) rfl (o.cl Ad ca) _ HRA.out Try.underlying36 rfl HSO.out ?_)
        | (with_reducible refine wpList_store_row rfl 36 _ _ rfl (wr.heap.size + 1) (o.cl Ad ca).toArray rfl rfl 36 #[.int .i64 0, .int .i64 0, .slice none 0 0, .int .u64 0, .int .i64 0, .int .i64 0] HB4.out HS2.out HZ6.out HO1.out ?_; rw [row_new, HLC.out]))
      refine HGU.out.mono ?_
      rintro e w7 ⟨bb, rfl, hbi, S7, hR⟩
      have HBI := Lib.hid hbi
      clear hbi
      rcases bb with _ | _
      · rw [if_neg (by simp)] at hR
        obtain ⟨D', r, en, hdo, hw7⟩ := hR
        have HW7 := Lib.hid hw7
        have HDO := Lib.hid hdo
        clear hw7 hdo
        go_wp2_with fail
        refine ⟨⟨k + 1, by omega, by go_num, S7, Lib.hid ?_⟩, by simp [intOf]; omega⟩
        rw [HSU.out]
        have e1 : plStep T x.1 o = (D', r, en) := by unfold plStep; rw [HDO.out]
        rw [e1]
        exact HW7.out
      · rw [if_pos rfl] at hR
        obtain ⟨hdo, hw7⟩ := hR
        have HW7 := Lib.hid hw7
        have HDO := Lib.hid hdo
        have ce := hw7.e.cell 0
        have ci := HBI.out.cell 0
        have ck : w7.cell? ⟨ge, k, none⟩ = some (.int .i64 0) := by
          rw [hw7.errs.cell k, show x.2.2.length = k by rw [hw7.lene, HLN.out]]
          exact row_at _ n k _ (by simp; rw [hw7.lene, HLN.out]) hlt
        have fk := hw7.errs.frozen k
        clear hw7 hdo
        go_wp2_with fail
        refine ⟨⟨k + 1, by omega, by go_num, S7, Lib.hid ?_⟩, by simp [intOf]; omega⟩
        rw [HSU.out]
        have e1 : plStep T x.1 o = (x.1, [], 9) := by unfold plStep; rw [HDO.out]
        rw [e1]
        exact HW7.out.miss k HLN.out hlt 9
    · have hkn : k = n := by omega
      subst hkn
      have i1 : ¬ (k : Int) < (k : Int) := by omega
      generalize plS T ((DM.new T).armed arm) ops k = x at *
      have S0 := Lib.hid (show wr.drew.cell? ⟨br, 0, none⟩ = some (.slice (some ⟨gr, 0, none⟩) k k) ∧ wr.drew.cell? ⟨be, 0, none⟩ = some (.slice (some ⟨ge, 0, none⟩) k k) ∧ wr.drew.cell? ⟨bd, 0, none⟩ = some (.pointer (some ⟨p, 0, none⟩)) from ⟨HW.out.r.cell 0, HW.out.e.cell 0, HW.out.d.cell 0⟩)
      have HI := Lib.hid ((HW.out.dsk.drewN 1).image)
      have HIL := Lib.hid (show x.1.img.length = T * 256 from HW.out.dsk.ok.len)
      go_wp2_with fail
      go_region_held3 (fun w' => w'.cell? ⟨br, 0, none⟩ = some (.slice (some ⟨gr, 0, none⟩) k k) ∧ w'.cell? ⟨be, 0, none⟩ = some (.slice (some ⟨ge, 0, none⟩) k k) ∧ w'.cell? ⟨bd, 0, none⟩ = some (.pointer (some ⟨p, 0, none⟩)))
        (first
          | (with_reducible exact S0.out)
          | (with_reducible exact S8.out))
        (first
          | (go_at_call 23; refine HI.out.mono ?_; rintro e w8 ⟨Ai, ci, rfl, q1, q2, q3⟩; have Q1 := Lib.hid q1; have Q2 := Lib.hid q2; have Q3 := Lib.hid q3; have h8 := HW.out.beyond ((below_drewN (Below.refl _ _) 1).trans q3); have H8 := Lib.hid h8; have S8 := Lib.hid (show w8.cell? ⟨br, 0, none⟩ = some (.slice (some ⟨gr, 0, none⟩) k k) ∧ w8.cell? ⟨be, 0, none⟩ = some (.slice (some ⟨ge, 0, none⟩) k k) ∧ w8.cell? ⟨bd, 0, none⟩ = some (.pointer (some ⟨p, 0, none⟩)) from ⟨h8.r.cell 0, h8.e.cell 0, h8.d.cell 0⟩); clear q1 q2 q3 h8))
      go_wp2_with fail
      refine bodyPost_ret (v := .tuple #[.slice (some ⟨gr, 0, none⟩) k k, .slice (some ⟨ge, 0, none⟩) k k, .slice Ai (T * 256) ci]) (by simp [results, Try.results14, go_sem]) rfl ?_
      refine ⟨S1, bd, br, be, gr, ge, p, Ai, ci, rfl, H8.out, Seg.of_own Q2.out, Q1.out, fun a ha => ?_⟩
      have h9 := Q2.out.lt a.block (by rw [ha]; rfl)
      have h10 := HW.out.bel.size
      exact Nat.le_trans h10 h9.1
end
end Go.Proofs.Ytmgbmnbjionapaa
