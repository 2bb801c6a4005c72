/- The walk of the statement on boxes: it answers true. Condition: the table of the cyclic sum is laid, the pieces lie in memory. -/
import Derived.Test.YthjbkgappjpanaaDoorSInv
import Derived.Test.YthjbkgappjpanaaDoorSame7
namespace Go.Proofs.YthjbkgappjpanaaDoor
open Go.RowKit

/-- A piece of whatever numbers. -/
structure QM where
  i : Int
  t : Int
  c : Nat
  d : ByteArray
def QM.cl (p : QM) : List Value := [.int .i64 p.i, .int .i64 p.t, .int .u32 (p.c : Int), .string p.d]
/-- The list that is handed in. -/
def QsAt (w : World) (A : Option Addr) (l : List QM) : Prop := ∀ k (hk : k < l.length), ∃ b off, A = some ⟨b, off, none⟩ ∧ b < w.heap.size ∧ ∀ j, j < 4 → w.cell? ⟨b, off + k * 4 + j, none⟩ = (l[k].cl)[j]?
theorem ints_eq (l : List Nat) : ints l = (l.map fun (x : Nat) => (x : Int)).map (Value.int .i64) := by simp [ints]
/-- What both say is wanting is one. -/
theorem same_miss {A1 A2 : Option Addr} {c1 c2 n1 n2 : Nat} {l : List Nat} {w : World} (h1 : n1 = l.length) (h2 : n2 = l.length) (s1 : Seg w A1 (ints l)) (s2 : Seg w A2 (ints l)) (hs : l.length ≤ 1000000) :
    Calls Tryd.prog 15 #[.slice A1 n1 c1, .slice A2 n2 c2] w fun e w' => e = .returned (.bool true) ∧ Below w.heap.size w w' := by
  subst h1
  subst h2
  rw [ints_eq] at s1 s2
  have := same_any A1 A2 c1 c2 (l.map fun (x : Nat) => (x : Int)) (l.map fun (x : Nat) => (x : Int)) w s1 s2 (by simp; omega) (by simp; omega)
  simp only [List.length_map, decide_true] at this
  exact this
/-- The reference's list of what is wanting. -/
theorem rmiss_any {T sm : Nat} {th : Nat → Bool} {dt : Nat → ByteArray} {R : List PcM} (h : BI T sm th dt R) (A : Option Addr) (n c B : Nat) (w : World) (hn : n = R.length) (ho : w.ownsRow B 33 4 (.slice A n c) n (rpV R)) (hs : n ≤ 1000) :
    Calls Tryd.prog 17 #[.slice A n c] w fun e w' => ∃ A' n' c', e = .returned (.slice A' n' c') ∧ n' = (missN th T).length ∧ Seg w' A' (ints (missN th T)) ∧ Below w.heap.size w w' := by
  rcases R with _ | ⟨p, R'⟩
  · have h0 := h.nil rfl
    subst h0
    obtain rfl : n = 0 := hn
    refine (rmiss_none A c w).mono ?_
    rintro e w' ⟨A', c', rfl, hb⟩
    exact ⟨A', 0, c', rfl, rfl, Seg.nil _ _, hb⟩
  · obtain ⟨h5, h6, _⟩ := h.all p (by simp)
    have hth : thR (p :: R') = th := funext h.thh
    have := rmiss_some A n c B p R' w hn ho hs (by rw [h5]; exact h.le)
    rw [hth, h5] at this
    refine this.mono ?_
    rintro e w' ⟨A', c', rfl, ho', hb⟩
    exact ⟨A', _, c', rfl, rfl, Seg.of_own ho', hb⟩
/-- Both texts. -/
theorem itext_any {T sm : Nat} {th : Nat → Bool} {dt : Nat → ByteArray} {R : List PcM} (h : BI T sm th dt R) (g : Nat) (w : World) (hx : Bx w g (bxC T sm th dt)) (hT : Tab w) :
    Calls Tryd.prog 13 #[.pointer (some ⟨g, 0, none⟩)] w fun e w' => e = .returned (.tuple #[.string (rtextS R), .int .i64 (rtextE R : Nat)]) ∧ Below w.heap.size w w' := by
  obtain ⟨e1, e2⟩ := text_both h
  by_cases hn : T = 0 ∨ 0 < (missN th T).length
  · have h6 : textE T sm th dt = 6 := by unfold textE; rw [if_pos hn]
    have hS : textS T sm th dt = ⟨#[]⟩ := by unfold textS; rw [h6]; rfl
    rw [← e1, ← e2, h6, hS]
    exact text_no g T sm th dt w hx h.le hn
  · rw [← e1, ← e2]
    exact text_yes g T sm th dt w hx h.le (by omega) (by omega) h.sz hT
theorem rtext_any {T sm : Nat} {th : Nat → Bool} {dt : Nat → ByteArray} {R : List PcM} (h : BI T sm th dt R) (A : Option Addr) (n c B : Nat) (w : World) (hn : n = R.length) (ho : w.ownsRow B 33 4 (.slice A n c) n (rpV R)) (hs : n ≤ 1000) :
    Calls Tryd.prog 14 #[.slice A n c] w fun e w' => e = .returned (.tuple #[.string (rtextS R), .int .i64 (rtextE R : Nat)]) ∧ Below w.heap.size w w' := by
  rcases R with _ | ⟨p, R'⟩
  · obtain rfl : n = 0 := hn
    exact rtext_none A c w
  · exact rtext_some A n c B p R' w hn ho hs (fun q hq => (h.all q hq).2.2)
theorem own_onl {w w' : World} {base n g size : Nat} {e : TypeId} {v : Value} {xs : List Value} (h : w.ownsRow base e size v n xs) (k : Onl g w w') (hg : g < base) : w'.ownsRow base e size v n xs := by
  refine ⟨h.1, ?_⟩
  rcases h.2 with hn | ⟨g', cap, cur, rfl, hb, hgg, rest⟩
  · exact .inl hn
  · refine .inr ⟨g', cap, cur, rfl, hb, (k.block g' ?_ (by omega)).trans hgg, rest⟩
    rcases Nat.lt_or_ge g' w.heap.size with h1 | h1
    · exact h1
    · rw [Array.getElem?_eq_none h1] at hgg; cases hgg
set_option maxRecDepth 100000 in
set_option maxHeartbeats 2000000 in
theorem boxes_any (A0 : Option Addr) (n0 c0 : Nat) (l : List QM) (w : World) (hn : n0 = l.length) (hQ : QsAt w A0 l) (hb : ∀ p ∈ l, -9223372036854775808 ≤ p.i ∧ p.i ≤ 9223372036854775807) (hT : Tab w) :
    Calls Tryd.prog 4 #[.slice A0 n0 c0] w fun e w' => e = .returned (.bool true) ∧ Below w.heap.size w w' := by
  obtain ⟨w1, hw1⟩ : ∃ w1, w1 = w.alloc (.cells zBx 38) := ⟨_, rfl⟩
  obtain ⟨g, hgg⟩ : ∃ g, g = w.heap.size := ⟨_, rfl⟩
  obtain ⟨w2, hw2⟩ : ∃ w2, w2 = w1.alloc (.cells #[] 33) := ⟨_, rfl⟩
  have hsz1 : w1.heap.size = g + 1 := by rw [hw1, hgg]; simp
  have HB2 := Lib.hid (show Below w.heap.size w w2 by rw [hw2, hw1]; exact ((Below.refl _ _).alloc (Nat.le_refl _) _).alloc (by simp) _)
  have HX2 := Lib.hid (show Bx w2 g (bxC 0 0 (fun _ => false) (fun _ => ⟨#[]⟩)) by rw [hw2]; exact (show Bx w1 g _ by rw [hw1, hgg]; exact bx_new w).bel ((Below.refl _ _).alloc (Nat.le_refl _) _))
  have HR2 := Lib.hid (show w2.ownsRow (g + 1) 33 4 (.slice (some ⟨g + 1, 0, none⟩) 0 0) 0 (rpV []) by rw [hw2, ← hsz1]; exact World.ownsRow_lit w1 #[] 0 (by omega) (by decide) rfl)
  have hzb := zero_box
  have HN := Lib.hid hn
  have HQ := Lib.hid hQ
  have HBD := Lib.hid hb
  have HT := Lib.hid hT
  have HW1 := Lib.hid hw1
  have HW2 := Lib.hid hw2
  have HGG := Lib.hid hgg
  have HS1 := Lib.hid hsz1
  clear hn hQ hb hT hw1 hw2 hgg hsz1
  go_enter Tryd.func4, Tryd.ntmps4
  go_upto_region 2 with fail
  rw [← HW1.out, ← HGG.out]
  go_upto_region 3 with fail
  rw [HS1.out, ← HW2.out]
  go_wp2_with fail
  go_loopw [4, 5] (fun v i wr => ∃ (k T sm : Nat) (th : Nat → Bool) (dt : Nat → ByteArray) (R : List PcM) (A : Option Addr) (n c : Nat), k ≤ 150 ∧ i = .int .i64 k ∧ v = .slice A n c ∧ n = R.length ∧ BI T sm th dt R ∧ Bx wr g (bxC T sm th dt) ∧ wr.ownsRow (g + 1) 33 4 (.slice A n c) n (rpV R) ∧ R.length ≤ k ∧ Below w.heap.size w wr) (fun _ i _ => 150 - (intOf i).toNat)
  case atStart => exact ⟨0, 0, 0, _, _, [], _, 0, 0, by omega, rfl, rfl, rfl, BI.zero, HX2.out, HR2.out, Nat.le_refl _, HB2.out⟩
  case round =>
    obtain ⟨k, T, sm, th, dt, R, A, n, c, hk, rfl, rfl, hn, hI, hx, hrow, hRk, hbw⟩ := hrel
    have HBW := Lib.hid hbw
    by_cases hkk : k < n0 ∧ k < 150
    · have i1 : (k : Int) < (n0 : Int) := by omega
      have i2 : (k : Int) < 150 := by omega
      have i3 : (0 : Int) ≤ (k : Int) := by omega
      have hkl : k < l.length := by rw [← HN.out]; exact hkk.1
      obtain ⟨b, off, rfl, hbl, hcc⟩ := HQ.out k hkl
      obtain ⟨q, hq⟩ : ∃ q, q = l[k] := ⟨_, rfl⟩
      have hqb := HBD.out q (by rw [hq]; exact List.getElem_mem hkl)
      rw [← hq] at hcc
      obtain ⟨bb, ee, T', sm', th', dt', R', hI', hRl, hIm, hRf⟩ := step_both g T sm th dt R hI q.i q.t q.c q.d hqb
      have HCC := Lib.hid (fun (wx : World) (h : Below w.heap.size w wx) j (hj : j < 4) => (h.cell (p := ⟨b, off + k * 4 + j, none⟩) hbl).trans (hcc j hj))
      have c0' : wr.cell? ⟨b, off + k * 4, none⟩ = some (.int .i64 q.i) := HCC.out wr hbw 0 (by decide)
      have c1' : wr.cell? ⟨b, off + k * 4 + 1, none⟩ = some (.int .i64 q.t) := HCC.out wr hbw 1 (by decide)
      have c2' : wr.cell? ⟨b, off + k * 4 + 2, none⟩ = some (.int .u32 (q.c : Int)) := HCC.out wr hbw 2 (by decide)
      have c3' : wr.cell? ⟨b, off + k * 4 + 3, none⟩ = some (.string q.d) := HCC.out wr hbw 3 (by decide)
      have CI := Lib.hid (hIm wr hx)
      have HRF := Lib.hid hRf
      have HI' := Lib.hid hI'
      have HROW := Lib.hid hrow
      have HNN := Lib.hid hn
      have hgl := hx.lt
      have hng : n ≤ 1000 := by omega
      have hwg : w.heap.size ≤ g := Nat.le_of_eq HGG.out.symm
      clear hIm hRf hI' hI hrow hcc hq hkl hkk hx hbw hn
      go_wp2_with fail
      refine CI.out.mono ?_
      rintro e w3 ⟨rfl, hx3, ho3⟩
      have HB3 := Lib.hid (ho3.below HBW.out hwg HBW.out.size)
      have HX3 := Lib.hid hx3
      have HROW3 := Lib.hid (own_onl HROW.out ho3 (Nat.lt_succ_self g))
      have d0 : w3.cell? ⟨b, off + k * 4, none⟩ = some (.int .i64 q.i) := HCC.out w3 HB3.out 0 (by decide)
      have d1 : w3.cell? ⟨b, off + k * 4 + 1, none⟩ = some (.int .i64 q.t) := HCC.out w3 HB3.out 1 (by decide)
      have d2 : w3.cell? ⟨b, off + k * 4 + 2, none⟩ = some (.int .u32 (q.c : Int)) := HCC.out w3 HB3.out 2 (by decide)
      have d3 : w3.cell? ⟨b, off + k * 4 + 3, none⟩ = some (.string q.d) := HCC.out w3 HB3.out 3 (by decide)
      have CR := Lib.hid (HRF.out A n c (g + 1) w3 HNN.out HROW3.out hng (Nat.succ_le_of_lt hx3.lt))
      clear hx3 ho3 CI c0' c1' c2' c3' HROW HCC
      go_wp2_with fail
      refine CR.out.mono ?_
      rintro e w4 ⟨A', n', c', rfl, hn', hrow4, hb4⟩
      have HB4 := Lib.hid (below_step HB3.out hb4)
      have HX4 := Lib.hid (HX3.out.bel hb4)
      have HROW4 := Lib.hid hrow4
      have HN' := Lib.hid hn'
      have hn9 : n' ≤ 1000 := by omega
      have hnk : R'.length ≤ k + 1 := by omega
      have CT := Lib.hid (itext_any HI'.out g w4 HX4.out (HT.out.below HB4.out))
      clear hrow4 hb4 hn' CR d0 d1 d2 d3 HROW3 HX3
      go_wp2_with fail
      refine CT.out.mono ?_
      rintro e w5 ⟨rfl, hb5⟩
      have HB5 := Lib.hid (below_step HB4.out hb5)
      have HX5 := Lib.hid (HX4.out.bel hb5)
      have HROW5 := Lib.hid (own_belS HROW4.out hb5)
      have CU := Lib.hid (rtext_any HI'.out A' n' c' (g + 1) w5 HN'.out HROW5.out hn9)
      clear hb5 CT HROW4 HX4
      generalize rtextE R' = eE at *
      generalize rtextS R' = sS at *
      go_wp2_with fail
      refine CU.out.mono ?_
      rintro e w6 ⟨rfl, hb6⟩
      have HB6 := Lib.hid (below_step HB5.out hb6)
      have HX6 := Lib.hid (HX5.out.bel hb6)
      have HROW6 := Lib.hid (own_belS HROW5.out hb6)
      have CM := Lib.hid (miss_any g T' sm' th' dt' w6 HX6.out HI'.out.le)
      clear hb6 CU HROW5 HX5
      go_wp2_with fail
      refine CM.out.mono ?_
      rintro e w7 ⟨Am, cm, rfl, hom, hb7⟩
      have HB7 := Lib.hid (below_step HB6.out hb7)
      have HX7 := Lib.hid (HX6.out.bel hb7)
      have HROW7 := Lib.hid (own_belS HROW6.out hb7)
      have HSM := Lib.hid (Seg.of_own hom)
      have CN := Lib.hid (rmiss_any HI'.out A' n' c' (g + 1) w7 HN'.out HROW7.out hn9)
      obtain ⟨L, hL⟩ : ∃ L, L = (missN th' T').length := ⟨_, rfl⟩
      have HL := Lib.hid hL
      rw [← hL]
      clear hb7 CM HROW6 HX6 hom hL
      go_wp2_with fail
      refine CN.out.mono ?_
      rintro e w8 ⟨Ar, nr, cr, rfl, hnr, hsr, hb8⟩
      have HB8 := Lib.hid (below_step HB7.out hb8)
      have HX8 := Lib.hid (HX7.out.bel hb8)
      have HROW8 := Lib.hid (own_belS HROW7.out hb8)
      have CS := Lib.hid (same_miss (c1 := cm) (c2 := cr) HL.out hnr (HSM.out.bel hb8) hsr (Nat.le_trans (missN_le th' T') (Nat.le_trans HI'.out.le (by decide))))
      clear hb8 CN HROW7 HX7 hnr hsr HSM
      go_wp2_with fail
      refine CS.out.mono ?_
      rintro e w9 ⟨rfl, hb9⟩
      have HB9 := Lib.hid (below_step HB8.out hb9)
      have HX9 := Lib.hid (HX8.out.bel hb9)
      have HROW9 := Lib.hid (own_belS HROW8.out hb9)
      clear hb9 CS HROW8 HX8
      go_wp2_with fail
      exact ⟨⟨k + 1, T', sm', th', dt', R', A', n', c', by omega, by go_num, rfl, HN'.out, HI'.out, HX9.out, HROW9.out, hnk, HB9.out⟩, by simp [intOf]; omega⟩
    · have CA := Lib.hid (awake_any wr (HT.out.below hbw))
      clear hI hx hrow hbw hn
      by_cases hkn : k < n0
      · have i1 : (k : Int) < (n0 : Int) := by omega
        have i2 : ¬ (k : Int) < 150 := by omega
        clear hkk hkn
        go_wp2_with fail
        refine CA.out.mono ?_
        rintro e w9 ⟨rfl, hb9⟩
        have HB9 := Lib.hid (below_step HBW.out hb9)
        clear hb9
        go_wp2_with fail
        go_ret
        exact ⟨rfl, HB9.out⟩
      · have i1 : ¬ (k : Int) < (n0 : Int) := by omega
        clear hkk hkn
        go_wp2_with fail
        refine CA.out.mono ?_
        rintro e w9 ⟨rfl, hb9⟩
        have HB9 := Lib.hid (below_step HBW.out hb9)
        clear hb9
        go_wp2_with fail
        go_ret
        exact ⟨rfl, HB9.out⟩
end Go.Proofs.YthjbkgappjpanaaDoor
