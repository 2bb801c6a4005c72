/- A feed that was closed stays closed. Condition: the library's table and errors are laid. -/
import Derived.Test.YtbpclifgafafdaaDoorShS
import Derived.Test.YtbpclifgafafdaaDoorShU
import Derived.Test.YtbpclifgafafdaaDoorTkT
namespace Go.Proofs.YtbpclifgafafdaaDoor
open Go.RowKit Go.Shelf

def xZ : ByteArray := { data := #[120] }
/-- The first k events as cells. -/
def evs : Nat → List Value
  | 0 => []
  | k + 1 => evs k ++ [.int .i64 ((k : Int) + 1), .int .i64 0, .string xZ]
theorem evs_length : ∀ k, (evs k).length = k * 3
  | 0 => rfl
  | k + 1 => by rw [evs, List.length_append, evs_length k]; simp; omega
theorem evs_one : ∀ k, ∀ u ∈ evs k, u.oneCell' = true
  | 0, u, h => by cases h
  | k + 1, u, h => by
    rw [evs, List.mem_append] at h
    rcases h with h | h
    · exact evs_one k u h
    · simp only [List.mem_cons, List.not_mem_nil, or_false] at h
      rcases h with rfl | rfl | rfl <;> rfl
theorem evs_at : ∀ (k i : Nat), i < k → (evs k)[i * 3]? = some (.int .i64 ((i : Int) + 1))
  | 0, i, h => by omega
  | k + 1, i, h => by
    rw [evs]
    by_cases e : i = k
    · subst e
      rw [List.getElem?_append_right (by rw [evs_length]; omega), evs_length, Nat.sub_self]
      rfl
    · rw [List.getElem?_append_left (by rw [evs_length]; omega)]
      exact evs_at k i (by omega)
theorem evs_at1 : ∀ (k i : Nat), i < k → (evs k)[i * 3 + 1]? = some (.int .i64 0)
  | 0, i, h => by omega
  | k + 1, i, h => by
    rw [evs]
    by_cases e : i = k
    · subst e
      rw [List.getElem?_append_right (by rw [evs_length]; omega), evs_length, show i * 3 + 1 - i * 3 = 1 by omega]
      rfl
    · rw [List.getElem?_append_left (by rw [evs_length]; omega)]
      exact evs_at1 k i (by omega)
theorem evs_at2 : ∀ (k i : Nat), i < k → (evs k)[i * 3 + 2]? = some (.string xZ)
  | 0, i, h => by omega
  | k + 1, i, h => by
    rw [evs]
    by_cases e : i = k
    · subst e
      rw [List.getElem?_append_right (by rw [evs_length]; omega), evs_length, show i * 3 + 2 - i * 3 = 2 by omega]
      rfl
    · rw [List.getElem?_append_left (by rw [evs_length]; omega)]
      exact evs_at2 k i (by omega)
/-- The feed behind k events. -/
def LpI (B q k : Nat) (w : World) : Prop := (k ≤ 16 ∧ ∃ K, Fd B q K k (evs k) false w) ∨ (16 < k ∧ Fd B q (.slice none 0 0) 0 [] true w)
theorem LpI.push (B q k : Nat) (w : World) (h : LpI B q k w) :
    Calls Tryd.prog 13 #[.pointer (some ⟨q, 0, none⟩), .agg #[.int .i64 ((k : Int) + 1), .int .i64 0, .string xZ]] w fun e w' => e = .returned (.tuple #[]) ∧ LpI B q (k + 1) w' ∧ Below B w w' := by
  rcases h with ⟨hk, K, hF⟩ | ⟨hk, hF⟩
  · by_cases e : k = 16
    · subst e
      exact (push_full B q 16 K _ (Nat.le_refl _) (by decide) _ 0 xZ w hF).mono fun e w' ⟨h1, h2, h3⟩ => ⟨h1, Or.inr ⟨by omega, h2⟩, h3⟩
    · exact (push_room B q k K _ (by omega) _ 0 xZ (by decide) w hF).mono fun e w' ⟨h1, ⟨K', h2⟩, h3⟩ => ⟨h1, Or.inl ⟨by omega, K', h2⟩, h3⟩
  · exact (push_shut B q _ 0 xZ w hF).mono fun e w' ⟨h1, h2, h3⟩ => ⟨h1, Or.inr ⟨by omega, h2⟩, h3⟩
theorem LpI.fd {B q k : Nat} {w : World} (h : LpI B q k w) : ∃ K n xs b, Fd B q K n xs b w := by
  rcases h with ⟨_, K, hF⟩ | ⟨_, hF⟩
  · exact ⟨_, _, _, _, hF⟩
  · exact ⟨_, _, _, _, hF⟩
theorem LpI.bel {B q k : Nat} {w w' : World} (h : LpI B q k w) (hb : Below w.heap.size w w') : LpI B q k w' := by
  rcases h with ⟨hk, K, hF⟩ | ⟨hk, hF⟩
  · exact Or.inl ⟨hk, K, hF.bel hb⟩
  · exact Or.inr ⟨hk, hF.bel hb⟩
/-- See with an event that lies in a block of its own. -/
theorem see_new (R : World → Prop) (B gu gc gm q n : Nat) (K : Value) (xs : List Value) (b : Bool) (pos : Int) (hp : 0 < pos) (w : World) (hS : Sp w gu gc gm) (hF : Fd B q K n xs b w) (hl : gu < B ∧ gc < B ∧ gm < B)
    (hpush : ∀ w1, Below w.heap.size w w1 → Calls Tryd.prog 13 #[.pointer (some ⟨q, 0, none⟩), .agg #[.int .i64 pos, .int .i64 0, .string xZ]] w1 fun e w' => e = .returned (.tuple #[]) ∧ R w' ∧ Below B w1 w') :
    Calls Tryd.prog 6 #[.pointer (some ⟨q, 0, none⟩), spV gu gc, spV gu gc, .slice (some ⟨w.heap.size, 0, none⟩) 1 1] (w.alloc (.cells #[.int .i64 pos, .int .i64 0, .string xZ] 38)) fun e w' => e = .returned (.tuple #[]) ∧ R w' ∧ Below B w w' := by
  have ba := (Below.refl w.heap.size w).alloc (Nat.le_refl _) (.cells #[.int .i64 pos, .int .i64 0, .string xZ] 38)
  have hX := Bk.new w 38 #[.int .i64 pos, .int .i64 0, .string xZ]
  refine (see_any R B gu gc gm q w.heap.size n K xs b pos hp xZ _ (hS.bel ba) (hF.bel ba) hl hX.lt (hX.cell 0) (hX.cell 1) (hX.cell 2) (fun w1 hb => hpush w1 (ba.trans (hb.mono (by simp))))).mono ?_
  rintro e w' ⟨h1, h2, h3⟩
  exact ⟨h1, h2, (ba.mono hF.big).trans h3⟩
/-- The workspace as the statement's own variable. -/
structure SvI (w : World) (gs gu gc gm : Nat) : Prop where
  sv : Bk w gs 33 (spC gu gc)
  sp : Sp w gu gc gm
theorem SvI.bel {w w' : World} {gs gu gc gm : Nat} (h : SvI w gs gu gc gm) (hb : Below w.heap.size w w') : SvI w' gs gu gc gm := ⟨h.sv.bel hb, h.sp.bel hb⟩
theorem SvI.below {w w' : World} {B gs gu gc gm : Nat} (h : SvI w gs gu gc gm) (hb : Below B w w') (hl : gs < B ∧ gu < B ∧ gc < B ∧ gm < B) : SvI w' gs gu gc gm := ⟨h.sv.below hb hl.1, ⟨cell_below hb hl.2.1 h.sp.us, cell_below hb hl.2.2.1 h.sp.ms, cell_below hb hl.2.2.2 h.sp.me⟩⟩
/-- What is taken out of an open feed. -/
theorem take_open (B q k T m r : Nat) (K : Value) (hk : k ≤ 16) (hT : T ≤ 60) (hm : m = min T k) (hr : r = k - m) (w : World) (h : Fd B q K k (evs k) false w) :
    Calls Tryd.prog 7 #[.pointer (some ⟨q, 0, none⟩), .int .i64 (T : Int)] w fun e w' => ∃ A c A' c', e = .returned (.tuple #[.slice A m c, .bool true]) ∧ m ≤ c ∧ Seg w' A ((evs k).take (m * 3)) ∧ Bk w' q 50 (fdC (.slice A' r c') false) ∧ Below B w w' := by
  rcases h.own.2 with ⟨hK, hk0⟩ | ⟨g, cap, cur, hK, _⟩
  · subst hK
    obtain rfl : k = 0 := hk0
    obtain rfl : m = 0 := by omega
    obtain rfl : r = 0 := by omega
    exact (take_nil B q T (by omega) false w h).mono fun e w' ⟨h1, h2, h3⟩ => ⟨none, 0, none, 0, h1, Nat.le_refl _, Seg.nil _ _, h2.bk, h3⟩
  · subst hK
    subst hr
    exact (take_some B q g k cap T m (evs k) (by omega) (by omega) hm (evs_one k) w h).mono fun e w' ⟨⟨A, c, h1, h2, h3⟩, h4, h5⟩ => ⟨A, c, _, _, h1, h2, h3, h4, h5⟩
set_option maxRecDepth 100000 in
set_option maxHeartbeats 2000000 in
theorem shut_out (n t : Int) (hr : n < 0 ∨ (¬ n < 0 ∧ 60 < n) ∨ (¬ n < 0 ∧ ¬ 60 < n ∧ t < 0) ∨ (¬ n < 0 ∧ ¬ 60 < n ∧ ¬ t < 0 ∧ 60 < t)) (w : World) (hE : Errs w) (hT : Pows w) :
    Calls Tryd.prog 3 #[.int .i64 n, .int .i64 t] w fun e w' => e = .returned (.bool true) ∧ Below w.heap.size w w' := by
  have CA := Lib.hid (awake_any w hE hT)
  clear hE hT
  rcases hr with h1 | ⟨h1, h2⟩ | ⟨h1, h2, h3⟩ | ⟨h1, h2, h3, h4⟩
  all_goals
    go_enter Tryd.func3, Tryd.ntmps3
    go_wp2_with (go_at_call 4; refine CA.out.mono ?_; rintro e w' ⟨rfl, hb⟩)
    go_ret
    exact ⟨rfl, hb⟩
set_option maxRecDepth 100000 in
set_option maxHeartbeats 8000000 in
theorem shut_in (N T : Nat) (hN : N ≤ 60) (hTk : T ≤ 60) (w : World) (hE : Errs w) (hT : Pows w) :
    Calls Tryd.prog 3 #[.int .i64 (N : Int), .int .i64 (T : Int)] w fun e w' => e = .returned (.bool true) ∧ Below w.heap.size w w' := by
  have a1 : ¬ (N : Int) < 0 := by omega
  have a2 : ¬ (60 : Int) < (N : Int) := by omega
  have a3 : ¬ (T : Int) < 0 := by omega
  have a4 : ¬ (60 : Int) < (T : Int) := by omega
  have HE := Lib.hid hE
  have HT := Lib.hid hT
  clear hE hT
  obtain ⟨wa, hwa⟩ : ∃ wa, wa = ((((w.alloc (.cells #[.string annZ] 9)).alloc (.cells #[.int .i64 0] 3)).alloc (.cells #[.string { data := #[99] }, .bool false, .slice (some ⟨w.heap.size + 1, 0, none⟩) 1 1] 26)).alloc (.cells #[.slice (some ⟨w.heap.size, 0, none⟩) 1 1, .slice (some ⟨w.heap.size + 1 + 1, 0, none⟩) 1 1, .slice none 0 0, .slice none 0 0, .slice none 0 0, .slice none 0 0, .int .i64 0] 33)) := ⟨_, rfl⟩
  have q1 : Below w.heap.size w (w.alloc (.cells #[.string annZ] 9)) := (Below.refl _ _).alloc (Nat.le_refl _) _
  have z1 : (w.alloc (.cells #[.string annZ] 9)).heap.size = w.heap.size + 1 := by simp
  have q2 : Below w.heap.size w ((w.alloc (.cells #[.string annZ] 9)).alloc (.cells #[.int .i64 0] 3)) := q1.alloc q1.size _
  have z2 : ((w.alloc (.cells #[.string annZ] 9)).alloc (.cells #[.int .i64 0] 3)).heap.size = w.heap.size + 1 + 1 := by simp
  have q3 : Below w.heap.size w (((w.alloc (.cells #[.string annZ] 9)).alloc (.cells #[.int .i64 0] 3)).alloc (.cells #[.string { data := #[99] }, .bool false, .slice (some ⟨w.heap.size + 1, 0, none⟩) 1 1] 26)) := q2.alloc q2.size _
  have z3 : (((w.alloc (.cells #[.string annZ] 9)).alloc (.cells #[.int .i64 0] 3)).alloc (.cells #[.string { data := #[99] }, .bool false, .slice (some ⟨w.heap.size + 1, 0, none⟩) 1 1] 26)).heap.size = w.heap.size + 1 + 1 + 1 := by simp
  have q4 : Below w.heap.size w wa := by rw [hwa]; exact q3.alloc q3.size _
  have z4 : wa.heap.size = w.heap.size + 1 + 1 + 1 + 1 := by rw [hwa]; simp
  have b1 : Bk wa w.heap.size 9 #[.string annZ] := by rw [hwa]; exact (((Bk.new w _ _).alloc _).alloc _).alloc _
  have b2 : Bk wa (w.heap.size + 1) 3 #[.int .i64 0] := by rw [hwa, ← z1]; exact ((Bk.new (w.alloc (.cells #[.string annZ] 9)) _ _).alloc _).alloc _
  have b3 : Bk wa (w.heap.size + 1 + 1) 26 #[.string { data := #[99] }, .bool false, .slice (some ⟨w.heap.size + 1, 0, none⟩) 1 1] := by rw [hwa, ← z2]; exact (Bk.new ((w.alloc (.cells #[.string annZ] 9)).alloc (.cells #[.int .i64 0] 3)) _ _).alloc _
  have b4 : Bk wa (w.heap.size + 1 + 1 + 1) 33 (spC w.heap.size (w.heap.size + 1 + 1)) := by rw [hwa, ← z3]; exact Bk.new (((w.alloc (.cells #[.string annZ] 9)).alloc (.cells #[.int .i64 0] 3)).alloc (.cells #[.string { data := #[99] }, .bool false, .slice (some ⟨w.heap.size + 1, 0, none⟩) 1 1] 26)) _ _
  have HV := Lib.hid (show SvI wa (w.heap.size + 1 + 1 + 1) w.heap.size (w.heap.size + 1 + 1) (w.heap.size + 1) from ⟨b4, ⟨b1.cell 0, b3.cell 2, b2.cell 0⟩⟩)
  have HL := Lib.hid (show w.heap.size + 1 + 1 + 1 < wa.heap.size ∧ w.heap.size < wa.heap.size ∧ w.heap.size + 1 + 1 < wa.heap.size ∧ w.heap.size + 1 < wa.heap.size by omega)
  have HBA := Lib.hid q4
  have HWA := Lib.hid hwa
  clear q1 z1 q2 z2 q3 z3 q4 z4 b1 b2 b3 b4 hwa
  unfold annZ at HWA
  go_enter Tryd.func3, Tryd.ntmps3
  go_wp2_with fail
  rw [← HWA.out]
  clear HWA
  obtain ⟨gu, hgu⟩ : ∃ gu, gu = w.heap.size := ⟨_, rfl⟩
  rw [← hgu] at HV HL ⊢
  have HGU := Lib.hid hgu
  clear hgu
  generalize gu + 1 + 1 + 1 = gs at *
  generalize gu + 1 + 1 = gc at *
  generalize gu + 1 = gm at *
  obtain ⟨B, hB⟩ : ∃ B, B = wa.heap.size := ⟨_, rfl⟩
  rw [← hB] at HL
  refine (follow_any wa).mono ?_
  rw [← hB]
  rintro e w1 ⟨q, rfl, hF, hb1⟩
  have HF := Lib.hid hF
  have HB1 := Lib.hid hb1
  have HBW := Lib.hid (show w.heap.size ≤ B by rw [hB]; exact HBA.out.size)
  have HBL := Lib.hid (show B ≤ wa.heap.size by omega)
  clear hF hb1 hB
  dsimp only
  go_wp2_with fail
  go_loopw [7] (fun i wr => ∃ k : Nat, k ≤ N ∧ i = .int .i64 k ∧ LpI B q k wr ∧ Below B wa wr) (fun i _ => N - (intOf i).toNat)
  case atStart => exact ⟨0, Nat.zero_le _, rfl, Or.inl ⟨Nat.zero_le _, _, HF.out⟩, HB1.out⟩
  case round =>
    obtain ⟨k, hk, rfl, hLp, hb⟩ := hrel
    have V := HV.out.below hb HL.out
    have y0 : wr.cell? ⟨gs, 0, none⟩ = some (.slice (some ⟨gu, 0, none⟩) 1 1) := V.sv.cell 0
    have y1 : wr.cell? ⟨gs, 1, none⟩ = some (.slice (some ⟨gc, 0, none⟩) 1 1) := V.sv.cell 1
    have y2 : wr.cell? ⟨gs, 2, none⟩ = some (.slice none 0 0) := V.sv.cell 2
    have y3 : wr.cell? ⟨gs, 3, none⟩ = some (.slice none 0 0) := V.sv.cell 3
    have y4 : wr.cell? ⟨gs, 4, none⟩ = some (.slice none 0 0) := V.sv.cell 4
    have y5 : wr.cell? ⟨gs, 5, none⟩ = some (.slice none 0 0) := V.sv.cell 5
    have y6 : wr.cell? ⟨gs, 6, none⟩ = some (.int .i64 0) := V.sv.cell 6
    have HVr := Lib.hid V
    have HLp := Lib.hid hLp
    have HBr := Lib.hid hb
    have HK := Lib.hid hk
    clear V hLp hb hk
    by_cases hlt : k < N
    · have hli : (k : Int) < (N : Int) := by omega
      have hwr : IntKind.i64.wrap ((k : Int) + 1) = (k : Int) + 1 := IntWalk.i64_in _ (by omega)
      go_wp2_with fail
      obtain ⟨K, n, xs, b, hF⟩ := HLp.out.fd
      refine (see_new (LpI B q (k + 1)) B gu gc gm q n K xs b ((k : Int) + 1) (by omega) wr HVr.out.sp hF HL.out.2 (fun w1 hb => LpI.push B q k w1 (HLp.out.bel hb))).mono ?_
      rintro e w2 ⟨rfl, hL2, hb2⟩
      have H2 := Lib.hid hL2
      have HB2 := Lib.hid (HBr.out.trans hb2)
      clear hL2 hb2 hF y0 y1 y2 y3 y4 y5 y6
      dsimp only
      go_wp2_with fail
      exact ⟨⟨k + 1, by omega, by go_num, H2.out, HB2.out⟩, by simp [intOf]; omega⟩
    · obtain rfl : k = N := by have := HK.out; omega
      clear y0 y1 y2 y3 y4 y5 y6
      go_wp2_with fail
      rcases HLp.out with ⟨h16, K, hF⟩ | ⟨h16, hF⟩
      · obtain ⟨m, hm⟩ : ∃ m, m = min T k := ⟨_, rfl⟩
        obtain ⟨r, hr⟩ : ∃ r, r = k - m := ⟨_, rfl⟩
        refine (take_open B q k T m r K h16 hTk hm hr wr hF).mono ?_
        rintro e w2 ⟨A, c, A', c', rfl, hmc, hseg, hbk, hb2⟩
        have i16 : ¬ (16 : Int) < (k : Int) := by omega
        have e1 : min (k : Int) (T : Int) = (m : Int) := by omega
        have e2 : IntKind.i64.wrap ((k : Int) - (m : Int)) = (r : Int) := by rw [IntWalk.i64_in _ (by omega)]; omega
        have HSeg := Lib.hid hseg
        have HBK := Lib.hid hbk
        have HB2 := Lib.hid (HBr.out.trans hb2)
        have HMK := Lib.hid (show m ≤ k by omega)
        have HHK := Lib.hid h16
        clear hseg hbk hb2 hF hmc hm hr h16 hlt
        dsimp only
        go_wp2_with fail
        go_loopw [95] (fun i wx => ∃ j : Nat, j ≤ m ∧ i = .int .i64 j ∧ Below w2.heap.size w2 wx) (fun i _ => m - (intOf i).toNat)
        case atStart => exact ⟨0, Nat.zero_le _, rfl, Below.refl _ _⟩
        case round =>
          obtain ⟨j, hj, rfl, hbx⟩ := hrel
          have HBX := Lib.hid hbx
          have HJ := Lib.hid hj
          clear hbx hj
          by_cases hlt : j < m
          · have hli : (j : Int) < (m : Int) := by omega
            have hlen : ((evs k).take (m * 3)).length = m * 3 := by rw [List.length_take, evs_length]; have := HMK.out; omega
            obtain ⟨b, off, rfl, hbl, hcell⟩ := HSeg.out (fun e => by rw [e] at hlen; simp at hlen; omega)
            have cc : ∀ o v, o < 3 → (evs k)[j * 3 + o]? = some v → wr.cell? ⟨b, off + (j * 3 + o), none⟩ = some v := fun o v ho hv => by
              refine cell_below HBX.out hbl ?_
              rw [hcell _ (by omega), List.getElem?_take, if_pos (by omega), hv]
            have hjk : j < k := by have := HMK.out; omega
            have c0 : wr.cell? ⟨b, off + j * 3, none⟩ = some (.int .i64 ((j : Int) + 1)) := cc 0 _ (by decide) (evs_at k j hjk)
            have c1 : wr.cell? ⟨b, off + j * 3 + 1, none⟩ = some (.int .i64 0) := cc 1 _ (by decide) (evs_at1 k j hjk)
            have c2 : wr.cell? ⟨b, off + j * 3 + 2, none⟩ = some (.string xZ) := cc 2 _ (by decide) (evs_at2 k j hjk)
            have hwj : IntKind.i64.wrap ((j : Int) + 1) = (j : Int) + 1 := IntWalk.i64_in _ (by have := HMK.out; have := HHK.out; omega)
            clear cc hcell hlen hbl
            go_wp2_with fail
            exact ⟨⟨j + 1, by omega, by go_num, HBX.out.alloc HBX.out.size _⟩, by simp [intOf]; omega⟩
          · obtain rfl : j = m := by have := HJ.out; omega
            have HW4 := Lib.hid (HBA.out.trans ((HB2.out.trans (HBX.out.mono (Nat.le_trans HBL.out HB2.out.size))).mono HBW.out))
            have HBK4 := Lib.hid (HBK.out.bel HBX.out)
            go_wp2_with fail
            refine (awake_any wr (HE.out.bel HW4.out) (HT.out.bel HW4.out)).mono ?_
            rintro e w5 ⟨rfl, hb5⟩
            have HW5 := Lib.hid (HW4.out.trans (hb5.mono HW4.out.size))
            have HF5 := Lib.hid (HBK4.out.bel hb5)
            clear hb5
            dsimp only
            go_wp2_with fail
            refine (waiting_any q r A' c' false w5 HF5.out).mono ?_
            rintro e w6 ⟨rfl, hww⟩
            rw [← hww]
            clear hww
            dsimp only
            go_wp2_with fail
            go_ret
            exact ⟨rfl, HW5.out⟩
      · have i16 : (16 : Int) < (k : Int) := by omega
        refine (take_nil B q T (by omega) true wr hF).mono ?_
        rintro e w2 ⟨he, hF2, hb2⟩
        rw [show (!true) = false from rfl] at he
        subst he
        have HB2 := Lib.hid (HBr.out.trans hb2)
        have V2 := HV.out.below HB2.out HL.out
        have y0 : w2.cell? ⟨gs, 0, none⟩ = some (.slice (some ⟨gu, 0, none⟩) 1 1) := V2.sv.cell 0
        have y1 : w2.cell? ⟨gs, 1, none⟩ = some (.slice (some ⟨gc, 0, none⟩) 1 1) := V2.sv.cell 1
        have y2 : w2.cell? ⟨gs, 2, none⟩ = some (.slice none 0 0) := V2.sv.cell 2
        have y3 : w2.cell? ⟨gs, 3, none⟩ = some (.slice none 0 0) := V2.sv.cell 3
        have y4 : w2.cell? ⟨gs, 4, none⟩ = some (.slice none 0 0) := V2.sv.cell 4
        have y5 : w2.cell? ⟨gs, 5, none⟩ = some (.slice none 0 0) := V2.sv.cell 5
        have y6 : w2.cell? ⟨gs, 6, none⟩ = some (.int .i64 0) := V2.sv.cell 6
        have HV2 := Lib.hid V2
        have HF2 := Lib.hid hF2
        clear V2 hF2 hb2 hF
        dsimp only
        go_wp2_with fail
        refine (see_new (Fd B q (.slice none 0 0) 0 [] true) B gu gc gm q 0 (.slice none 0 0) [] true 99 (by decide) w2 HV2.out.sp HF2.out HL.out.2 (fun w1 hb => push_shut B q 99 0 xZ w1 (HF2.out.bel hb))).mono ?_
        rintro e w3 ⟨rfl, hF3, hb3⟩
        have HF3 := Lib.hid hF3
        have HB3 := Lib.hid (HB2.out.trans hb3)
        clear hF3 hb3 y0 y1 y2 y3 y4 y5 y6
        dsimp only
        go_wp2_with fail
        have C9 := take_nil B q 9 (by decide) true w3 HF3.out
        rw [show ((9 : Nat) : Int) = 9 from rfl] at C9
        refine C9.mono ?_
        rintro e w4 ⟨he, hF4, hb4⟩
        rw [show (!true) = false from rfl] at he
        subst he
        have HB4 := Lib.hid (HB3.out.trans hb4)
        have HF4 := Lib.hid hF4
        have HW4 := Lib.hid (HBA.out.trans (HB4.out.mono HBW.out))
        clear hF4 hb4 C9
        dsimp only
        go_wp2_with fail
        refine (awake_any w4 (HE.out.bel HW4.out) (HT.out.bel HW4.out)).mono ?_
        rintro e w5 ⟨rfl, hb5⟩
        have HW5 := Lib.hid (HW4.out.trans (hb5.mono HW4.out.size))
        have HF5 := Lib.hid (HF4.out.bel hb5)
        clear hb5
        dsimp only
        go_wp2_with fail
        refine (waiting_any q 0 none 0 true w5 HF5.out.bk).mono ?_
        rintro e w6 ⟨rfl, hww⟩
        rw [← hww]
        clear hww
        dsimp only
        go_wp2_with fail
        go_ret
        exact ⟨rfl, HW5.out⟩
/-- For every input SessionShut answers true. -/
theorem shut_any (n t : Int) (w : World) (hE : Errs w) (hT : Pows w) :
    Calls Tryd.prog 3 #[.int .i64 n, .int .i64 t] w fun e w' => e = .returned (.bool true) ∧ Below w.heap.size w w' := by
  by_cases h : n < 0 ∨ (¬ n < 0 ∧ 60 < n) ∨ (¬ n < 0 ∧ ¬ 60 < n ∧ t < 0) ∨ (¬ n < 0 ∧ ¬ 60 < n ∧ ¬ t < 0 ∧ 60 < t)
  · exact shut_out n t h w hE hT
  · have e1 : ((n.toNat : Nat) : Int) = n := Int.toNat_of_nonneg (by omega)
    have e2 : ((t.toNat : Nat) : Int) = t := Int.toNat_of_nonneg (by omega)
    have := shut_in n.toNat t.toNat (by omega) (by omega) w hE hT
    rwa [e1, e2] at this
end Go.Proofs.YtbpclifgafafdaaDoor
