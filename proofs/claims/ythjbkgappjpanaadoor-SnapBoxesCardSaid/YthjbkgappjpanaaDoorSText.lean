/- What Take answers of a piece that it refuses; the text of a box. Condition: the box lies in memory; of Text: the table of the cyclic sum is laid. -/
import Derived.Test.YthjbkgappjpanaaDoorSTake
import Derived.Lib.AppendStr
namespace Go.Proofs.YthjbkgappjpanaaDoor
open Go.RowKit

set_option maxRecDepth 100000 in
set_option maxHeartbeats 1000000 in
theorem take_no (g : Nat) (i t : Int) (c : Nat) (d : ByteArray) (w : World) (r : Nat) (hr : r ≠ 0)
    (hC : ∀ w', Below w.heap.size w w' → Calls Tryd.prog 21 #[.pointer (some ⟨g, 0, none⟩), .agg #[.int .i64 i, .int .i64 t, .int .u32 (c : Int), .string d]] w' fun e w'' => e = .returned (.int .i64 (r : Int)) ∧ Below w'.heap.size w' w'') :
    Calls Tryd.prog 11 #[.pointer (some ⟨g, 0, none⟩), .agg #[.int .i64 i, .int .i64 t, .int .u32 (c : Int), .string d]] w fun e w' => e = .returned (.tuple #[.bool false, .int .i64 (r : Int)]) ∧ Below w.heap.size w w' := by
  have X1 := Bk.new w 32 #[.int .i64 i, .int .i64 t, .int .u32 (c : Int), .string d]
  have x0 := X1.cell 0
  have x1 := X1.cell 1
  have x2 := X1.cell 2
  have x3 := X1.cell 3
  simp only [List.getElem?_toArray, List.getElem?_cons_zero, List.getElem?_cons_succ] at x0 x1 x2 x3
  have HB := Lib.hid ((Below.refl w.heap.size w).alloc (Nat.le_refl _) (.cells #[.int .i64 i, .int .i64 t, .int .u32 (c : Int), .string d] 32))
  have C1 := Lib.hid (hC _ HB.out)
  have hr2 : ((r : Int) != 0) = true := by rw [bne_iff_ne]; omega
  clear X1 hC hr
  go_enter Tryd.func11, Tryd.ntmps11
  go_wp2_with fail
  refine C1.out.mono ?_
  rintro e w2 ⟨rfl, hb2⟩
  have HB2 := Lib.hid (below_step HB.out hb2)
  clear hb2 C1 HB
  go_wp2_with fail
  go_ret2
  exact ⟨rfl, HB2.out⟩
/-- The pieces' bytes behind one another. -/
def catN (dt : Nat → ByteArray) (k : Nat) : List Nat := (List.range k).flatMap fun i => octN (dt i)
theorem catN_succ (dt : Nat → ByteArray) (k : Nat) : catN dt (k + 1) = catN dt k ++ octN (dt k) := by simp [catN, List.range_succ]
theorem catN_lt (dt : Nat → ByteArray) (k : Nat) : ∀ x ∈ catN dt k, x < 256 := by
  intro x hx
  simp only [catN, List.mem_flatMap] at hx
  obtain ⟨i, _, hx⟩ := hx
  exact octN_lt _ x hx
theorem catN_le (dt : Nat → ByteArray) (hd : ∀ i, (dt i).size ≤ 4000) (k : Nat) : (catN dt k).length ≤ k * 4000 := by
  induction k with
  | zero => simp [catN]
  | succ k ih => rw [catN_succ, List.length_append, octN_length]; have := hd k; omega
theorem cells_oct (s : ByteArray) : Lib.strCells s = u8s (octN s) := by simp [Lib.strCells, u8s, octN]
/-- The text of a box: its error's number. -/
def textE (T sm : Nat) (th : Nat → Bool) (dt : Nat → ByteArray) : Nat :=
  if T = 0 ∨ 0 < (missN th T).length then 6 else if 4000 < (catN dt T).length then 2 else if 4294967295 - crcGo (catN dt T) ≠ sm then 4 else 0
def textS (T sm : Nat) (th : Nat → Bool) (dt : Nat → ByteArray) : ByteArray := if textE T sm th dt = 0 then txt (catN dt T) else ⟨#[]⟩
set_option maxRecDepth 100000 in
set_option maxHeartbeats 1000000 in
theorem text_no (g T sm : Nat) (th : Nat → Bool) (dt : Nat → ByteArray) (w : World) (hB : Bx w g (bxC T sm th dt)) (hT : T ≤ 100) (hn : T = 0 ∨ 0 < (missN th T).length) :
    Calls Tryd.prog 13 #[.pointer (some ⟨g, 0, none⟩)] w fun e w' => e = .returned (.tuple #[.string ⟨#[]⟩, .int .i64 6]) ∧ Below w.heap.size w w' := by
  have b0 := hB.cell 0 (by decide)
  rw [bx_zero] at b0
  by_cases h0 : T = 0
  · have h0' : ((T : Int) == 0) = true := by rw [h0]; rfl
    subst h0
    clear hB hn
    go_enter Tryd.func13, Tryd.ntmps13
    go_wp2_with fail
    go_ret2
    exact ⟨rfl, Below.refl _ _⟩
  · have h0' : ((T : Int) == 0) = false := by simp; omega
    have C1 := Lib.hid (miss_any g T sm th dt w hB hT)
    have hpos : 0 < (missN th T).length := by omega
    obtain ⟨L, hL⟩ : ∃ L, L = (missN th T).length := ⟨_, rfl⟩
    rw [← hL] at hpos C1
    have hL2 : (0 : Int) < (L : Int) := by omega
    clear hB hn h0
    go_enter Tryd.func13, Tryd.ntmps13
    go_wp2_with fail
    refine C1.out.mono ?_
    rintro e w2 ⟨A, c, rfl, _, hb⟩
    have HB := Lib.hid hb
    clear hb
    go_wp2_with fail
    go_ret2
    exact ⟨rfl, HB.out⟩
set_option maxRecDepth 100000 in
set_option maxHeartbeats 1000000 in
theorem text_yes (g T sm : Nat) (th : Nat → Bool) (dt : Nat → ByteArray) (w : World) (hB : Bx w g (bxC T sm th dt)) (hT : T ≤ 100) (h0 : T ≠ 0) (hn : (missN th T).length = 0) (hd : ∀ i, (dt i).size ≤ 4000) (hTab : Tab w) :
    Calls Tryd.prog 13 #[.pointer (some ⟨g, 0, none⟩)] w fun e w' => e = .returned (.tuple #[.string (textS T sm th dt), .int .i64 (textE T sm th dt : Nat)]) ∧ Below w.heap.size w w' := by
  obtain ⟨j0, hj0, hy0, hy1, hyb⟩ := info_parts info5
  have b0 := hB.cell 0 (by decide)
  rw [bx_zero] at b0
  have hlt := hB.lt
  have h0' : ((T : Int) == 0) = false := by simp; omega
  have C1 := Lib.hid (miss_any g T sm th dt w hB hT)
  rw [hn] at C1
  have hTI : (T : Int) ≤ 100 := by omega
  have hTJ : (0 : Int) ≤ (T : Int) := by omega
  have HX := Lib.hid hB
  have HT := Lib.hid hTab
  have HD := Lib.hid hd
  have hE0 : textE T sm th dt = if 4000 < (catN dt T).length then 2 else if 4294967295 - crcGo (catN dt T) ≠ sm then 4 else 0 := by unfold textE; rw [if_neg (by omega)]
  have HE0 := Lib.hid hE0
  have H00 := Lib.hid h0
  clear hB hn h0 hTab hd hE0
  go_enter Tryd.func13, Tryd.ntmps13
  go_wp2_with fail
  refine C1.out.mono ?_
  rintro e w2 ⟨A0, c0, rfl, _, hb2⟩
  have HB2 := Lib.hid hb2
  have b1 : w2.cell? ⟨g, 0, none⟩ = some (.int .i64 (T : Int)) := (hb2.cell (p := ⟨g, 0, none⟩) hlt).trans b0
  have HX2 := Lib.hid (HX.out.bel hb2)
  clear hb2 b0 C1
  go_wp2_with fail
  go_quiet (fail)
  have HB3 := Lib.hid (below_drewN HB2.out nq)
  have HX3 := Lib.hid (bx_drewN HX2.out nq)
  have hl3 := HX3.out.lt
  have HZ3 := Lib.hid HB3.out.size
  clear HB2 HX2 b1
  generalize w2.drewN nq = w3 at *
  go_wp2_with fail
  go_loopw [4, 27] (fun v i wr => ∃ k : Nat, k ≤ T ∧ i = .int .i64 k ∧ wr.ownsRow w3.heap.size 5 1 v (catN dt k).length (u8s (catN dt k)) ∧ Below w3.heap.size w3 wr) (fun _ i _ => T - (intOf i).toNat)
  case atStart => exact ⟨0, by omega, rfl, ⟨rfl, .inl ⟨rfl, rfl⟩⟩, Below.refl _ _⟩
  case round =>
    obtain ⟨k, hk, rfl, ho, hb⟩ := hrel
    obtain ⟨A, c, rfl, hc, hS⟩ := own_shape ho
    have hcl := catN_le dt HD.out k
    have hsz := hb.size
    have HBk := Lib.hid hb
    have HO := Lib.hid ho
    by_cases hlk : k < T
    · have hlkI : (k : Int) < (T : Int) := by omega
      have b2 : wr.cell? ⟨g, 102 + k, none⟩ = some (.string (dt k)) := by rw [hb.cell (p := ⟨g, 102 + k, none⟩) hl3, HX3.out.cell (102 + k) (by omega), bx_data]
      have hdk := HD.out k
      have HCS := Lib.hid (catN_succ dt k)
      obtain ⟨D, hD⟩ : ∃ D, D = dt k := ⟨_, rfl⟩
      obtain ⟨L, hL⟩ : ∃ L, L = (catN dt k).length := ⟨_, rfl⟩
      rw [← hD] at b2 hdk HCS
      rw [← hL] at hcl hc HO ⊢
      have HL := Lib.hid hL
      clear ho hb hS hD hL
      go_wp2_with (refine Lib.wpList_append_own_string _ rfl _ _ _ _ rfl w3.heap.size 5 j0 Tryd.underlying55 Tryd.underlying9 hj0 hy0 hy1 hyb _ L _ rfl HO.out D rfl (by simp only [maxLen]; omega) (by omega) hsz ?_; intro v4 w4 hown4 hg4 _; rw [cells_oct, ← u8s_append] at hown4; have B4 := Lib.hid (HBk.out.grown hg4 hsz (fun k hk => (HO.out.lt k hk).1));  have O4 := Lib.hid hown4; clear hown4 hg4)
      go_roundw
      case rel => exact ⟨k + 1, by omega, by go_num, by rw [HCS.out, List.length_append, octN_length, ← HL.out]; exact O4.out, B4.out⟩
      case measure => simp [intOf]; omega
    · obtain rfl : k = T := by omega
      have CB := Lib.hid (fun n => crc_any A (catN dt k).length c (catN dt k) rfl (wr.drewN n) (hS.bel (below_drewN (Below.refl _ _) n)) (((HT.out.below HB3.out).below (Below.trans (Below.refl _ _) hb)).below (below_drewN (Below.refl _ _) n)) (catN_lt dt k) (by omega))
      have b1 : wr.cell? ⟨g, 1, none⟩ = some (.int .u32 (sm : Int)) := by rw [hb.cell (p := ⟨g, 1, none⟩) hl3, HX3.out.cell 1 (by decide)]; rfl
      have HS := Lib.hid hS
      have HBF := Lib.hid (HB3.out.trans (hb.mono HZ3.out))
      have hlt9 := catN_lt dt k
      have HLT9 := Lib.hid hlt9
      have htS : textS k sm th dt = if textE k sm th dt = 0 then txt (catN dt k) else ⟨#[]⟩ := rfl
      have HTS := Lib.hid htS
      clear ho hb hS hlt9 htS
      generalize catN dt k = CT at *
      obtain ⟨L, hL⟩ : ∃ L, L = CT.length := ⟨_, rfl⟩
      rw [← hL] at hcl hc HO CB HE0 ⊢
      have HL := Lib.hid hL
      clear hL
      by_cases hbig : 4000 < L
      · have hbigI : (4000 : Int) < (L : Int) := by omega
        have e1 : textE k sm th dt = 2 := by rw [HE0.out, if_pos hbig]
        have e2 : textS k sm th dt = ⟨#[]⟩ := by rw [HTS.out, e1]; rfl
        have E1 := Lib.hid e1
        have E2 := Lib.hid e2
        clear e1 e2 hbig
        go_wp2_with fail
        go_ret2
        exact ⟨by rw [E1.out, E2.out]; rfl, HBF.out⟩
      · have hbigI : ¬ (4000 : Int) < (L : Int) := by omega
        rw [if_neg hbig] at HE0
        obtain ⟨R, hR⟩ : ∃ R, R = 4294967295 - crcGo CT := ⟨_, rfl⟩
        rw [← hR] at CB HE0
        clear hbig hR
        by_cases hrs : R = sm
        · have hrsI : ((R : Int) != (sm : Int)) = false := by rw [hrs]; simp
          rw [if_neg (by simp [hrs])] at HE0
          have e2 : textS k sm th dt = txt CT := by rw [HTS.out, HE0.out]; rfl
          have E2 := Lib.hid e2
          clear hrs e2
          go_wp2_with fail
          go_quiet ((go_at_call 18; exact Calls.quiet_of_same ((CB.out _).mono fun _ _ ⟨h1, h2⟩ => ⟨h1, h2.symm⟩)))
          have HBG := Lib.hid (below_drewN HBF.out nq)
          have hcv := run_txt (wr.drewN nq) A L c CT HL.out (HS.out.bel (below_drewN (Below.refl _ _) nq)) HLT9.out
          go_wp2_with fail
          go_ret2
          exact ⟨by rw [HE0.out, E2.out]; rfl, HBG.out⟩
        · have hrsI : ((R : Int) != (sm : Int)) = true := by rw [bne_iff_ne]; omega
          rw [if_pos hrs] at HE0
          have e2 : textS k sm th dt = ⟨#[]⟩ := by rw [HTS.out, HE0.out]; rfl
          have E2 := Lib.hid e2
          clear hrs e2
          go_wp2_with fail
          go_quiet ((go_at_call 18; exact Calls.quiet_of_same ((CB.out _).mono fun _ _ ⟨h1, h2⟩ => ⟨h1, h2.symm⟩)))
          have HBG := Lib.hid (below_drewN HBF.out nq)
          go_wp2_with fail
          go_ret2
          exact ⟨by rw [HE0.out, E2.out]; rfl, HBG.out⟩
end Go.Proofs.YthjbkgappjpanaaDoor
