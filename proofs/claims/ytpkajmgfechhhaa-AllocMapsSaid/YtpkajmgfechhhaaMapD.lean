/- The walks of taking blocks one by one. Conditions: a map in form lies in memory. -/
import Derived.Test.YtpkajmgfechhhaaMapC
import Derived.RegionTactic
import Derived.ChangeAlike
namespace Go.Proofs.Ytpkajmgfechhhaa
open Go.RowKit

def mapV (T : Int) (A : Option Addr) (n c : Nat) : Value := .agg #[.int .i64 T, .slice A n c]
theorem World.ownsRow.keep {w w' : World} {row : Option Nat} {base size : Nat} {e : TypeId} {v : Value} {n : Nat} {xs : List Value} (h : w.ownsRow base e size v n xs) (hg : w.grownBy w' row) (hne : v.ownBlock = none ∨ v.ownBlock ≠ row) : w'.ownsRow base e size v n xs := h.kept hg hne
def ints (l : List Nat) : List Value := l.map fun (x : Nat) => Value.int .i64 (x : Int)
theorem ints_length (l : List Nat) : (ints l).length = l.length := by simp [ints]
theorem ints_append (l m : List Nat) : ints (l ++ m) = ints l ++ ints m := by simp [ints]
theorem info_int : (Try.prog.info? 3).map (fun i => (i.zero, i.size, i.bytes)) = some (some (.int .i64 0), 1, 8) := by kernel_rfl
theorem one_one (k : IntKind) (a : Int) : ∀ u ∈ [Value.int k a], u.oneCell' = true := by
  intro u hu
  rw [List.mem_singleton] at hu
  subst hu; rfl
theorem own_far {w w' : World} {base size B : Nat} {e : TypeId} {v : Value} {n : Nat} {xs : List Value} (h : w.ownsRow base e size v n xs) (hB : ∀ k, v.ownBlock = some k → k < B) (hb : Below B w w') : w'.ownsRow base e size v n xs := by
  refine ⟨h.1, ?_⟩
  rcases h.2 with hn | ⟨g, cap, cur, rfl, hg, hgg, rest⟩
  · exact .inl hn
  · refine .inr ⟨g, cap, cur, rfl, hg, ?_, rest⟩
    rw [hb.block g (hB g rfl)]
    exact hgg
theorem own_lt {g o n c B : Nat} (h : g < B) : ∀ q, (Value.slice (some ⟨g, o, none⟩) n c).ownBlock = some q → q < B := fun q hq => by
  have : g = q := Option.some.inj hq
  omega
theorem own_at {w : World} {base size n c : Nat} {e : TypeId} {A : Option Addr} {xs : List Value} (h : w.ownsRow base e size (.slice A n c) n xs) (hn : 0 < n) : ∃ g, A = some ⟨g, 0, none⟩ ∧ base ≤ g ∧ g < w.heap.size := by
  obtain ⟨g, cap, hv, hb, hl⟩ := h.form hn
  injection hv with h1 h2 h3
  exact ⟨g, h1, hb, hl⟩
theorem flat_fill {f : Nat → Bool} {T k : Nat} (hf : flat f T) (hk : k ≤ T) : flat (fillTo f k) T := fun i hi => by
  unfold fillTo
  rw [hf i hi, show decide (i < k) = false by rw [decide_eq_false_iff_not]; omega]
  rfl
theorem MapIn.far {w : World} {T : Nat} {f : Nat → Bool} {A : Option Addr} {n c : Nat} (h : MapIn w T f A n c) {g : Nat} (hg : ∀ a, A = some a → g < a.block) (i : Nat) (u : Value) : MapIn (w.setCell ⟨g, i, none⟩ u) T f A n c := ⟨h.le, h.len, h.flat, h.seg.far hg i u, h.cap⟩
theorem MapIn.drew {w : World} {T : Nat} {f : Nat → Bool} {A : Option Addr} {n c : Nat} (h : MapIn w T f A n c) : MapIn w.drew T f A n c := h.bel (Below.refl _ _).drew
theorem frees_used {f : Nat → Bool} {k : Nat} (h : f k = true) : frees f (k + 1) = frees f k := by simp [frees, h]
theorem frees_free {f : Nat → Bool} {k : Nat} (h : f k = false) : frees f (k + 1) = frees f k ++ [k] := by simp [frees, h]
set_option maxRecDepth 100000 in
theorem take_no (T : Int) (A : Option Addr) (n c E : Nat) (num : Int) (l : List Nat) (hn : n = l.length) (hz : n ≤ 140737488355000) (hl : ∀ x ∈ l, x < 256) (w : World) (hS : Seg w A (u8s l)) (hE : chk T l = E) (h0 : E ≠ 0) :
    Calls Try.prog 20 #[.agg #[.int .i64 T, .slice A n c], .int .i64 num] w fun e w' => e = .returned (.tuple #[.slice none 0 0, .agg #[.int .i64 0, .slice none 0 0], .int .i64 (E : Int)]) ∧ Below w.heap.size w w' := by
  have hb := (((Below.refl w.heap.size w).alloc (Nat.le_refl _) (.cells #[.int .i64 T, .slice A n c] 27)).alloc (by simp) (.cells #[.int .i64 0, .slice none 0 0] 27))
  have HB := Lib.hid hb
  have HC := Lib.hid (check_any T A n c l hn hz hl _ (hS.bel hb))
  rw [hE] at HC
  have hle := chk_le T l
  rw [hE] at hle
  have hne : ((E : Int) != 0) = true := by rw [bne_iff_ne]; omega
  have BR := Lib.hid (show Bk ((w.alloc (.cells #[.int .i64 T, .slice A n c] 27)).alloc (.cells #[.int .i64 0, .slice none 0 0] 27)) (w.heap.size + 1) 27 #[.int .i64 0, .slice none 0 0] by
    have h1 := Bk.new (w.alloc (.cells #[.int .i64 T, .slice A n c] 27)) 27 #[.int .i64 0, .slice none 0 0]
    rwa [World.size_alloc] at h1)
  clear hb hn hl hS hE
  go_enter Try.func20, Try.ntmps20
  go_wp2_with fail
  refine (HC.out).mono ?_
  rintro e w2 ⟨rfl, b2⟩
  have B2 := Lib.hid (below_step HB.out b2)
  have r2 := BR.out.bel b2
  have y0 := r2.cell 0
  have y1 := r2.cell 1
  have f0 := r2.frozen 0
  have f1 := r2.frozen 1
  clear b2 r2
  go_wp2_with fail
  exact bodyPost_ret (v := .tuple #[.slice none 0 0, .agg #[.int .i64 0, .slice none 0 0], .int .i64 (E : Int)]) (by simp [results, Try.results20, go_sem, y0, y1]) rfl
    ⟨rfl, (B2.out.setCell (p := ⟨w.heap.size + 1, 0, none⟩) (by show w.heap.size ≤ w.heap.size + 1; omega) _).setCell (p := ⟨w.heap.size + 1, 1, none⟩) (by show w.heap.size ≤ w.heap.size + 1; omega) _⟩
set_option maxRecDepth 100000 in
theorem take_neg (T : Nat) (f : Nat → Bool) (A : Option Addr) (n c : Nat) (num : Int) (w : World) (h : MapIn w T f A n c) (hnum : num < 0) :
    Calls Try.prog 20 #[.agg #[.int .i64 (T : Int), .slice A n c], .int .i64 num] w fun e w' => e = .returned (.tuple #[.slice none 0 0, .agg #[.int .i64 0, .slice none 0 0], .int .i64 1]) ∧ Below w.heap.size w w' := by
  have hb := (((Below.refl w.heap.size w).alloc (Nat.le_refl _) (.cells #[.int .i64 (T : Int), .slice A n c] 27)).alloc (by simp) (.cells #[.int .i64 0, .slice none 0 0] 27))
  have HB := Lib.hid hb
  have HM := Lib.hid (h.bel hb)
  have BX := Lib.hid ((Bk.new w 27 #[.int .i64 (T : Int), .slice A n c]).alloc (.cells #[.int .i64 0, .slice none 0 0] 27))
  have BR := Lib.hid (show Bk ((w.alloc (.cells #[.int .i64 (T : Int), .slice A n c] 27)).alloc (.cells #[.int .i64 0, .slice none 0 0] 27)) (w.heap.size + 1) 27 #[.int .i64 0, .slice none 0 0] by
    have h1 := Bk.new (w.alloc (.cells #[.int .i64 (T : Int), .slice A n c] 27)) 27 #[.int .i64 0, .slice none 0 0]
    rwa [World.size_alloc] at h1)
  have HZ := Lib.hid (show ((w.alloc (.cells #[.int .i64 (T : Int), .slice A n c] 27)).alloc (.cells #[.int .i64 0, .slice none 0 0] 27)).heap.size = w.heap.size + 2 by simp)
  clear hb h
  go_enter Try.func20, Try.ntmps20
  go_wp2_with fail
  generalize (w.alloc (.cells #[.int .i64 (T : Int), .slice A n c] 27)).alloc (.cells #[.int .i64 0, .slice none 0 0] 27) = w1 at *
  refine (HM.out.check).mono ?_
  rintro e w2 ⟨rfl, b2⟩
  have B2 := Lib.hid (below_step HB.out b2)
  have M2 := Lib.hid (HM.out.bel b2)
  have X2 := Lib.hid (BX.out.bel b2)
  have R2 := Lib.hid (BR.out.bel b2)
  have Z2 := Lib.hid (show w.heap.size + 2 ≤ w2.heap.size by have := HZ.out; have := b2.size; omega)
  clear b2 HM HZ BX BR HB
  have y0 := R2.out.cell 0
  have y1 := R2.out.cell 1
  have f0 := R2.out.frozen 0
  have f1 := R2.out.frozen 1
  go_wp2_with fail
  exact bodyPost_ret (v := .tuple #[.slice none 0 0, .agg #[.int .i64 0, .slice none 0 0], .int .i64 1]) (by simp [results, Try.results20, go_sem, y0, y1]) rfl
    ⟨rfl, (B2.out.setCell (p := ⟨w.heap.size + 1, 0, none⟩) (by show w.heap.size ≤ w.heap.size + 1; omega) _).setCell (p := ⟨w.heap.size + 1, 1, none⟩) (by show w.heap.size ≤ w.heap.size + 1; omega) _⟩
set_option maxRecDepth 100000 in
theorem take_big (T : Nat) (f : Nat → Bool) (A : Option Addr) (n c : Nat) (num : Int) (w : World) (h : MapIn w T f A n c) (hnum : ¬ num < 0) (hbig : ((frees f T).length : Int) < num) :
    Calls Try.prog 20 #[.agg #[.int .i64 (T : Int), .slice A n c], .int .i64 num] w fun e w' => e = .returned (.tuple #[.slice none 0 0, .agg #[.int .i64 0, .slice none 0 0], .int .i64 5]) ∧ Below w.heap.size w w' := by
  have hb := (((Below.refl w.heap.size w).alloc (Nat.le_refl _) (.cells #[.int .i64 (T : Int), .slice A n c] 27)).alloc (by simp) (.cells #[.int .i64 0, .slice none 0 0] 27))
  have HB := Lib.hid hb
  have HM := Lib.hid (h.bel hb)
  have BX := Lib.hid ((Bk.new w 27 #[.int .i64 (T : Int), .slice A n c]).alloc (.cells #[.int .i64 0, .slice none 0 0] 27))
  have BR := Lib.hid (show Bk ((w.alloc (.cells #[.int .i64 (T : Int), .slice A n c] 27)).alloc (.cells #[.int .i64 0, .slice none 0 0] 27)) (w.heap.size + 1) 27 #[.int .i64 0, .slice none 0 0] by
    have h1 := Bk.new (w.alloc (.cells #[.int .i64 (T : Int), .slice A n c] 27)) 27 #[.int .i64 0, .slice none 0 0]
    rwa [World.size_alloc] at h1)
  have HZ := Lib.hid (show ((w.alloc (.cells #[.int .i64 (T : Int), .slice A n c] 27)).alloc (.cells #[.int .i64 0, .slice none 0 0] 27)).heap.size = w.heap.size + 2 by simp)
  clear hb h
  go_enter Try.func20, Try.ntmps20
  go_wp2_with fail
  generalize (w.alloc (.cells #[.int .i64 (T : Int), .slice A n c] 27)).alloc (.cells #[.int .i64 0, .slice none 0 0] 27) = w1 at *
  refine (HM.out.check).mono ?_
  rintro e w2 ⟨rfl, b2⟩
  have B2 := Lib.hid (below_step HB.out b2)
  have M2 := Lib.hid (HM.out.bel b2)
  have X2 := Lib.hid (BX.out.bel b2)
  have R2 := Lib.hid (BR.out.bel b2)
  have Z2 := Lib.hid (show w.heap.size + 2 ≤ w2.heap.size by have := HZ.out; have := b2.size; omega)
  clear b2 HM HZ BX BR HB
  have x0 := X2.out.cell 0
  have x1 := X2.out.cell 1
  go_wp2_with fail
  refine (mfree_any T A c n f M2.out.len M2.out.le M2.out.flat _ M2.out.seg).mono ?_
  rintro e w3 ⟨rfl, b3⟩
  have B3 := Lib.hid (below_step B2.out b3)
  have M3 := Lib.hid (M2.out.bel b3)
  have X3 := Lib.hid (X2.out.bel b3)
  have R3 := Lib.hid (R2.out.bel b3)
  have Z3 := Lib.hid (Nat.le_trans Z2.out b3.size)
  clear b3 M2 R2 X2 B2 Z2 x0 x1
  have y0 := R3.out.cell 0
  have y1 := R3.out.cell 1
  have f0 := R3.out.frozen 0
  have f1 := R3.out.frozen 1
  go_wp2_with fail
  exact bodyPost_ret (v := .tuple #[.slice none 0 0, .agg #[.int .i64 0, .slice none 0 0], .int .i64 5]) (by simp [results, Try.results20, go_sem, y0, y1]) rfl
    ⟨rfl, (B3.out.setCell (p := ⟨w.heap.size + 1, 0, none⟩) (by show w.heap.size ≤ w.heap.size + 1; omega) _).setCell (p := ⟨w.heap.size + 1, 1, none⟩) (by show w.heap.size ≤ w.heap.size + 1; omega) _⟩
set_option maxRecDepth 100000 in
set_option maxHeartbeats 2000000 in
theorem take_ok (T : Nat) (f : Nat → Bool) (A : Option Addr) (n c num : Nat) (w : World) (h : MapIn w T f A n c) (hbig : num ≤ (frees f T).length) :
    Calls Try.prog 20 #[.agg #[.int .i64 (T : Int), .slice A n c], .int .i64 (num : Int)] w fun e w' => ∃ v A' c' i, e = .returned (.tuple #[v, .agg #[.int .i64 (T : Int), .slice A' n c'], .int .i64 0]) ∧ i ≤ T ∧ (frees f i).length = num ∧
      w'.ownsRow w.heap.size 3 1 v num (ints (frees f i)) ∧ MapIn w' T (fillTo f i) A' n c' ∧ Below w.heap.size w w' := by
  obtain ⟨i0, hi0, hz0, hz1, hz2⟩ := info_parts info_int
  have hnum0 : ¬ (num : Int) < 0 := by omega
  have hbig0 : ¬ ((frees f T).length : Int) < (num : Int) := by omega
  have hbig1 : (num : Int) ≤ ((frees f T).length : Int) := by omega
  have HBIG := Lib.hid hbig
  have hb := (((Below.refl w.heap.size w).alloc (Nat.le_refl _) (.cells #[.int .i64 (T : Int), .slice A n c] 27)).alloc (by simp) (.cells #[.int .i64 0, .slice none 0 0] 27))
  have HB := Lib.hid hb
  have HM := Lib.hid (h.bel hb)
  have BX := Lib.hid ((Bk.new w 27 #[.int .i64 (T : Int), .slice A n c]).alloc (.cells #[.int .i64 0, .slice none 0 0] 27))
  have BR := Lib.hid (show Bk ((w.alloc (.cells #[.int .i64 (T : Int), .slice A n c] 27)).alloc (.cells #[.int .i64 0, .slice none 0 0] 27)) (w.heap.size + 1) 27 #[.int .i64 0, .slice none 0 0] by
    have h1 := Bk.new (w.alloc (.cells #[.int .i64 (T : Int), .slice A n c] 27)) 27 #[.int .i64 0, .slice none 0 0]
    rwa [World.size_alloc] at h1)
  have HZ := Lib.hid (show ((w.alloc (.cells #[.int .i64 (T : Int), .slice A n c] 27)).alloc (.cells #[.int .i64 0, .slice none 0 0] 27)).heap.size = w.heap.size + 2 by simp)
  clear hb h
  go_enter Try.func20, Try.ntmps20
  go_wp2_with fail
  generalize (w.alloc (.cells #[.int .i64 (T : Int), .slice A n c] 27)).alloc (.cells #[.int .i64 0, .slice none 0 0] 27) = w1 at *
  refine (HM.out.check).mono ?_
  rintro e w2 ⟨rfl, b2⟩
  have B2 := Lib.hid (below_step HB.out b2)
  have M2 := Lib.hid (HM.out.bel b2)
  have X2 := Lib.hid (BX.out.bel b2)
  have R2 := Lib.hid (BR.out.bel b2)
  have Z2 := Lib.hid (show w.heap.size + 2 ≤ w2.heap.size by have := HZ.out; have := b2.size; omega)
  clear b2 HM HZ BX BR HB
  have x0 := X2.out.cell 0
  have x1 := X2.out.cell 1
  go_wp2_with fail
  refine (mfree_any T A c n f M2.out.len M2.out.le M2.out.flat _ M2.out.seg).mono ?_
  rintro e w3 ⟨rfl, b3⟩
  have B3 := Lib.hid (below_step B2.out b3)
  have M3 := Lib.hid (M2.out.bel b3)
  have X3 := Lib.hid (X2.out.bel b3)
  have R3 := Lib.hid (R2.out.bel b3)
  have Z3 := Lib.hid (Nat.le_trans Z2.out b3.size)
  clear b3 M2 R2 X2 B2 Z2 x0 x1
  have x0 := X3.out.cell 0
  have x1 := X3.out.cell 1
  clear hbig
  go_wp2_with fail
  refine (mclone_any (T : Int) A n c (pk f n) (pk_length f n).symm (by have := M3.out.len; have := M3.out.le; omega) _ M3.out.seg).mono ?_
  rintro e w4 ⟨A4, c4, rfl, hc4, o4, b4⟩
  have O4 := Lib.hid o4
  have B4 := Lib.hid (below_step B3.out b4)
  have R4 := Lib.hid (R3.out.bel b4)
  have Z4 := Lib.hid (Nat.le_trans Z3.out b4.size)
  have Z3' := Lib.hid Z3.out
  have S34 := Lib.hid b4.size
  have ML := Lib.hid M3.out.len
  have MT := Lib.hid M3.out.le
  have MF := Lib.hid M3.out.flat
  clear b4 o4 x0 x1 M3 B3 X3 R3 Z3
  go_wp2_with fail
  have XN' := Bk.new w4 27 #[.int .i64 (T : Int), .slice A4 n c4]
  have HS5 := Lib.hid (show (w4.alloc (.cells #[.int .i64 (T : Int), .slice A4 n c4] 27)).heap.size = w4.heap.size + 1 by simp)
  have O5' := O4.out.alloc (.cells #[.int .i64 (T : Int), .slice A4 n c4] 27)
  have B5 := Lib.hid (B4.out.alloc B4.out.size (.cells #[.int .i64 (T : Int), .slice A4 n c4] 27))
  have R5 := Lib.hid (R4.out.alloc (.cells #[.int .i64 (T : Int), .slice A4 n c4] 27))
  have LT := Lib.hid (fun k hk => (O4.out.lt k hk))
  generalize w4.alloc (.cells #[.int .i64 (T : Int), .slice A4 n c4] 27) = w5 at *
  have O5 := Lib.hid O5'
  have XN := Lib.hid XN'
  clear O5' XN' O4 R4 B4
  obtain ⟨row, hrow⟩ : ∃ row, row = (Value.slice A4 n c4).ownBlock := ⟨_, rfl⟩
  have HR := Lib.hid hrow
  clear hrow
  go_loopw [9, 10] (fun v i wr => ∃ k : Nat, k ≤ T ∧ i = .int .i64 k ∧ (frees f k).length ≤ num ∧ wr.ownsRow w5.heap.size 3 1 v (frees f k).length (ints (frees f k)) ∧ wr.ownsRow w3.heap.size 5 1 (.slice A4 n c4) n (u8s (pk (fillTo f k) n)) ∧ w5.grownBy wr row) (fun _ i _ => T - (intOf i).toNat)
  case atStart => exact ⟨0, by omega, rfl, by simp [frees], ⟨rfl, .inl ⟨rfl, rfl⟩⟩, by rw [fillTo_zero]; exact O5.out, only_refl _ _⟩
  case round =>
    obtain ⟨k, hk, rfl, hle, ho1, ho2, hg⟩ := hrel
    have hk4 := MT.out
    obtain ⟨A1, c1, rfl, hc1, _⟩ := own_shape ho1
    by_cases hlt : (frees f k).length < num
    · have hkT : k < T := by
        rcases Nat.lt_or_ge k T with h | h
        · exact h
        · obtain rfl : k = T := by omega
          have := HBIG.out
          omega
      have hn0 : 0 < n := by rw [ML.out]; omega
      have hk8 : k < 8 * n := by rw [ML.out]; omega
      have hn3 : n ≤ 1000000 := by rw [ML.out]; omega
      obtain ⟨g, rfl, hg1, hg2⟩ := own_at ho2 hn0
      have hgw : g < w4.heap.size := (LT.out g rfl).2
      have hrw : row = some g := HR.out
      subst hrw
      have M6 := Lib.hid (show MapIn wr T (fillTo f k) (some ⟨g, 0, none⟩) n c4 from ⟨MT.out, ML.out, flat_fill MF.out hk, Seg.of_own ho2, hc4, ⟩)
      have HU := Lib.hid (used_map M6.out k hkT)
      rw [fillTo_at] at HU
      have X6 := Lib.hid (only_bk hg XN.out (by omega))
      have y0 := X6.out.cell 0
      have y1 := X6.out.cell 1
      have ltb : ((frees f k).length : Int) < (num : Int) := by omega
      have O1 := Lib.hid ho1
      have O2 := Lib.hid ho2
      have G1 := Lib.hid hg
      by_cases e : f k = true
      · have e1 := Lib.hid (frees_used e)
        have e2 := Lib.hid (fillTo_used f k e)
        rw [e] at HU
        clear ho1 ho2 hg e hlt
        generalize hLL : (frees f k).length = L at *
        have HLL := Lib.hid hLL
        clear hLL
        go_wp2_with (go_at_call 33; refine (HU.out).mono ?_; rintro e w6 ⟨rfl, b6⟩; have P1 := Lib.hid (own_bel' O1.out b6); have P2 := Lib.hid (own_bel' O2.out b6); have G2 := Lib.hid (only_bel G1.out G1.out.size b6); clear b6 y0 y1)
        go_roundw
        case rel => exact ⟨k + 1, by omega, by go_num, by rw [e1.out, HLL.out]; exact hle, by rw [e1.out, HLL.out]; exact P1.out, by rw [e2.out]; exact P2.out, G2.out⟩
        case measure => simp [intOf]; omega
      · have e' : f k = false := by simpa using e
        have e1 := Lib.hid (frees_free e')
        have e2 := Lib.hid (fillTo_free f k)
        rw [e'] at HU
        have H5 := Lib.hid (show ∀ q, (Value.slice A1 (frees f k).length c1).ownBlock = some q → q ≠ g from fun q hq => by have := (O1.out.lt q hq).1; have := HS5.out; omega)
        have hLk := frees_length f k
        clear ho1 ho2 hg e e'
        generalize hLL : (frees f k).length = L at *
        have HLL := Lib.hid hLL
        clear hLL
        go_wp2_with (go_at_call 33; refine (HU.out).mono ?_; rintro e w6 ⟨rfl, b6⟩; have P1 := Lib.hid (own_bel' O1.out b6); have P2 := Lib.hid (own_bel' O2.out b6); have G2 := Lib.hid (only_bel G1.out G1.out.size b6); have X7 := X6.out.bel b6; have z0 := X7.cell 0; have z1 := X7.cell 1; clear b6 y0 y1 X7)
        refine (use_any (T : Int) g n c4 k w3.heap.size (fillTo f k) hk8 hn3 _ P2.out).mono ?_
        rintro e w7 ⟨rfl, o7, b7⟩
        have Q2 := Lib.hid o7
        have Q1 := Lib.hid (World.ownsRow.keep P1.out b7 (by rcases A1 with _ | a1; exact .inl rfl; exact .inr (fun hq => H5.out a1.block rfl (by injection hq))))
        have G3 := Lib.hid (only_then G2.out b7)
        clear b7 o7 z0 z1
        go_wp2_with (at_builtin; refine wpList_append_els _ rfl _ _ _ rfl w5.heap.size 3 i0 _ 1 8 Try.underlying43 hi0 hz0 hz1 hz2 rfl (by omega) _ L (ints (frees f k)) rfl (Q1.out.alloc _) w7.heap.size 0 1 1 [.int .i64 (k : Int)] rfl rfl (fun j u hj => lit_at w7 _ _ j u hj) (one_one _ _) (by simp only [maxLen]; omega) (by omega) (by have := G3.out.size; simp; omega) ?_; intro v8 w8 hown hb8; have Q8 := Lib.hid hown; have QO8 := Lib.hid (own_far (Q2.out.alloc _) (own_lt (by have := HS5.out; omega)) hb8); have G8 := Lib.hid (only_bel (only_alloc G3.out _) (Nat.le_refl _) hb8); clear hown hb8)
        go_roundw
        case rel => exact ⟨k + 1, by omega, by go_num, by rw [e1.out, List.length_append, HLL.out]; simp; omega, by rw [e1.out, List.length_append, HLL.out, ints_append]; exact Q8.out, by rw [← e2.out]; exact QO8.out, G8.out⟩
        case measure => simp [intOf]; omega
    · have hL : (frees f k).length = num := by omega
      have HG := Lib.hid (show ∀ x, row = some x → w.heap.size + 2 ≤ x ∧ x < w4.heap.size from fun x hx => by have := LT.out x (HR.out ▸ hx); have := Z3'.out; omega)
      have X6 := Lib.hid (show Bk wr w4.heap.size 27 #[.int .i64 (T : Int), .slice A4 n c4] from (hg.block _ XN.out.lt (fun e => by have := (HG.out _ e.symm).2; omega)).trans XN.out)
      have R6 := Lib.hid (show Bk wr (w.heap.size + 1) 27 #[.int .i64 0, .slice none 0 0] from (hg.block _ R5.out.lt (fun e => by have := (HG.out _ e.symm).1; omega)).trans R5.out)
      have B6 := Lib.hid (show Below w.heap.size w wr from B5.out.trans ⟨hg.os, hg.tape, hg.output, hg.size, fun i hi => hg.block i (Nat.lt_of_lt_of_le hi B5.out.size) (fun e => by have := (HG.out _ e.symm).1; omega)⟩)
      have y0 := X6.out.cell 0
      have y1 := X6.out.cell 1
      have r0 := R6.out.cell 0
      have r1 := R6.out.cell 1
      have f0 := R6.out.frozen 0
      have f1 := R6.out.frozen 1
      have M6 := Lib.hid (show MapIn wr T (fillTo f k) A4 n c4 from ⟨MT.out, ML.out, flat_fill MF.out hk, Seg.of_own ho2, hc4, ⟩)
      have O1 := Lib.hid ho1
      have ltb : ¬ ((frees f k).length : Int) < (num : Int) := by omega
      have HL := Lib.hid hL
      have HSZ := Lib.hid (show w.heap.size ≤ w5.heap.size from B5.out.size)
      have HW5 := Lib.hid (show w.heap.size + 1 < w5.heap.size by have := HS5.out; have := Z4.out; omega)
      have HFA := Lib.hid (show ∀ a, A4 = some a → w.heap.size + 1 < a.block from fun a ha => by have := (LT.out a.block (by rw [ha]; rfl)).1; have := Z3'.out; omega)
      clear ho1 ho2 hg hL hle hlt
      generalize hLL : (frees f k).length = L at *
      have HLL := Lib.hid hLL
      clear hLL
      go_wp2_with fail
      go_region
      all_goals
        go_wp2_with fail
        exact bodyPost_ret (v := .tuple #[.slice A1 L c1, .agg #[.int .i64 (T : Int), .slice A4 n c4], .int .i64 0]) (by simp [results, Try.results20, go_sem, r0, r1]) rfl
          ⟨.slice A1 L c1, A4, c4, k, rfl, hk, by rw [HLL.out, HL.out], by rw [← HL.out]; exact own_le (ownsRow_setCell_below (ownsRow_setCell_below O1.out.drew (a := ⟨w.heap.size + 1, 0, none⟩) HW5.out _) (a := ⟨w.heap.size + 1, 1, none⟩) HW5.out _) HSZ.out, (M6.out.drew.far HFA.out 0 _).far HFA.out 1 _,
            (B6.out.drew.setCell (p := ⟨w.heap.size + 1, 0, none⟩) (by show w.heap.size ≤ w.heap.size + 1; omega) _).setCell (p := ⟨w.heap.size + 1, 1, none⟩) (by show w.heap.size ≤ w.heap.size + 1; omega) _⟩
end Go.Proofs.Ytpkajmgfechhhaa
