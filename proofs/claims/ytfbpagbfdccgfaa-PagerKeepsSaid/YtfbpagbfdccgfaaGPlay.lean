/- A row of calls on a new pager. Condition: the calls lie in memory, and are at most 300. -/
import Derived.Test.YtfbpagbfdccgfaaGFew
namespace Go.Proofs.Ytfbpagbfdccgfaa
open Go.RowKit

/-- The pages behind the first i calls, and what call i comes to. -/
def stN (room : Int) (os : List (Int × Int)) : Nat → List HeldM
  | 0 => []
  | i + 1 => (doM room (stN room os i) (os.getD i (0, 0)).1 (os.getD i (0, 0)).2).1
def acN (room : Int) (os : List (Int × Int)) (i : Nat) : ActM := (doM room (stN room os i) (os.getD i (0, 0)).1 (os.getD i (0, 0)).2).2
theorem mem_set_or {l : List HeldM} {i : Nat} {x s : HeldM} (h : s ∈ l.set i x) : s ∈ l ∨ s = x := List.mem_or_eq_of_mem_set h
theorem pin_grows (room : Int) (l : List HeldM) (page : Int) (m : Nat) (h : ∀ s ∈ l, s.pins ≤ m) : (pinM room l page).1.length ≤ l.length + 1 ∧ ∀ s ∈ (pinM room l page).1, s.pins ≤ m + 1 := by
  have gd : ∀ i, (l.getD i default).pins ≤ m := fun i => by
    rcases Nat.lt_or_ge i l.length with hi | hi
    · rw [show l.getD i default = l[i] by simp [hi]]
      exact h _ (List.getElem_mem hi)
    · rw [show l.getD i default = default by simp [hi]]
      exact Nat.zero_le _
  have er : ∀ i, (l.eraseIdx i).length ≤ l.length := fun i => by rw [List.length_eraseIdx]; split <;> omega
  unfold pinM
  split
  · refine ⟨by simp only [List.length_append, List.length_singleton]; have := er (findZ (isP page) l).toNat; omega, fun s hs => ?_⟩
    rcases List.mem_append.1 hs with hs | hs
    · have := h s (List.mem_of_mem_eraseIdx hs); omega
    · simp only [List.mem_singleton] at hs
      subst hs
      have := gd (findZ (isP page) l).toNat
      show _ + 1 ≤ _
      omega
  · split
    · split
      · exact ⟨Nat.le_succ _, fun s hs => Nat.le_succ_of_le (h s hs)⟩
      · refine ⟨by simp only [List.length_append, List.length_singleton]; have := er (findZ isF l).toNat; omega, fun s hs => ?_⟩
        rcases List.mem_append.1 hs with hs | hs
        · have := h s (List.mem_of_mem_eraseIdx hs); omega
        · simp only [List.mem_singleton] at hs
          subst hs
          show 1 ≤ _
          omega
    · refine ⟨by simp, fun s hs => ?_⟩
      rcases List.mem_append.1 hs with hs | hs
      · have := h s hs; omega
      · simp only [List.mem_singleton] at hs
        subst hs
        show 1 ≤ _
        omega
theorem do_grows (room : Int) (l : List HeldM) (kind page : Int) (m : Nat) (h : ∀ s ∈ l, s.pins ≤ m) : (doM room l kind page).1.length ≤ l.length + 1 ∧ ∀ s ∈ (doM room l kind page).1, s.pins ≤ m + 1 := by
  have same : l.length ≤ l.length + 1 ∧ ∀ s ∈ l, s.pins ≤ m + 1 := ⟨Nat.le_succ _, fun s hs => Nat.le_succ_of_le (h s hs)⟩
  unfold doM
  split
  · refine ⟨by simp [flushM], fun s hs => ?_⟩
    unfold flushM at hs
    obtain ⟨t, ht, rfl⟩ := List.mem_map.1 hs
    exact Nat.le_succ_of_le (h t ht)
  · split
    · exact same
    · split
      · exact pin_grows room l page m h
      · split
        · unfold chgM
          split
          · exact same
          · split
            · exact same
            · refine ⟨by simp, fun s hs => ?_⟩
              rcases mem_set_or hs with hs | hs
              · exact Nat.le_succ_of_le (h s hs)
              · subst hs
                have gd : (l.getD (findZ (isP page) l).toNat default).pins ≤ m := by
                  rcases Nat.lt_or_ge (findZ (isP page) l).toNat l.length with hi | hi
                  · rw [show l.getD (findZ (isP page) l).toNat default = l[(findZ (isP page) l).toNat] by simp [hi]]
                    exact h _ (List.getElem_mem hi)
                  · rw [show l.getD (findZ (isP page) l).toNat default = default by simp [hi]]
                    exact Nat.zero_le _
                unfold chgH
                split
                · show _ - 1 ≤ _; omega
                · show (l.getD (findZ (isP page) l).toNat default).pins ≤ _; omega
        · exact same
theorem st_grows (room : Int) (os : List (Int × Int)) : ∀ i, (stN room os i).length ≤ i ∧ ∀ s ∈ stN room os i, s.pins ≤ i
  | 0 => ⟨Nat.le_refl _, fun s hs => by cases hs⟩
  | i + 1 => by
    obtain ⟨h1, h2⟩ := st_grows room os i
    obtain ⟨h3, h4⟩ := do_grows room (stN room os i) (os.getD i (0, 0)).1 (os.getD i (0, 0)).2 i h2
    exact ⟨Nat.le_trans h3 (by omega), h4⟩
/-- The answers in memory, the first i of them. -/
def ActsIn (w : World) (B ga n : Nat) (f : Nat → ActM) (i : Nat) : Prop :=
  ∃ cells, Bk w ga 38 cells ∧ cells.size = n * 4 ∧ ∀ j, j < i → ∃ A c, cells[j * 4]? = some (.int .i64 (f j).err) ∧ cells[j * 4 + 1]? = some (.bool (f j).hit) ∧ cells[j * 4 + 2]? = some (.int .i64 (f j).out) ∧ cells[j * 4 + 3]? = some (.slice A (f j).wrote.length c) ∧ w.ownsRow B 3 1 (.slice A (f j).wrote.length c) (f j).wrote.length (intV (f j).wrote)
theorem ActsIn.bel {w w' : World} {B ga n : Nat} {f : Nat → ActM} {i : Nat} (h : ActsIn w B ga n f i) (hb : Below w.heap.size w w') : ActsIn w' B ga n f i := by
  obtain ⟨cells, h1, h2, h3⟩ := h
  refine ⟨cells, h1.bel hb, h2, fun j hj => ?_⟩
  obtain ⟨A, c, k1, k2, k3, k4, k5⟩ := h3 j hj
  exact ⟨A, c, k1, k2, k3, k4, kept_bel k5 hb⟩
theorem ActsIn.kp {w w' : World} {B ga n : Nat} {f : Nat → ActM} {i gp : Nat} {room : Int} {C : Nat} {l : List HeldM} {v : Value} {S' : Nat → Prop} (h : ActsIn w B ga n f i) (hp : PgA C gp room l v w) (hk : Kp (pS gp v) S' w w') : ActsIn w' B ga n f i := by
  obtain ⟨cells, h1, h2, h3⟩ := h
  have hga : ¬ pS gp v ga := fun e => by
    rcases e with e | e
    · subst e
      have e2 := hp.bk
      unfold Bk at h1 e2
      rw [h1] at e2
      injection e2 with e2
      injection e2 with _ e2
      revert e2
      decide
    · exact own_block_ne hp.row h1 (by decide) e
  refine ⟨cells, hk.bk h1 hga, h2, fun j hj => ?_⟩
  obtain ⟨A, c, k1, k2, k3, k4, k5⟩ := h3 j hj
  refine ⟨A, c, k1, k2, k3, k4, hk.own k5 (fun b hb hs => ?_)⟩
  rcases hs with e | e
  · subst e; exact own_block_ne k5 hp.bk (by decide) hb
  · exact own_types_ne k5 hp.row (by decide) hb e
/-- One more answer stored. -/
theorem ActsIn.put {w : World} {B ga n : Nat} {f : Nat → ActM} {i : Nat} (h : ActsIn w B ga n f i) (hi : i < n) {A : Option Addr} {c : Nat} (hw : w.ownsRow B 3 1 (.slice A (f i).wrote.length c) (f i).wrote.length (intV (f i).wrote)) :
    ActsIn ((((w.setCell ⟨ga, i * 4, none⟩ (.int .i64 (f i).err)).setCell ⟨ga, i * 4 + 1, none⟩ (.bool (f i).hit)).setCell ⟨ga, i * 4 + 2, none⟩ (.int .i64 (f i).out)).setCell ⟨ga, i * 4 + 3, none⟩ (.slice A (f i).wrote.length c)) B ga n f (i + 1) := by
  obtain ⟨cells, h1, h2, h3⟩ := h
  have hne : ∀ {v : Value} {m : Nat} {xs : List Value}, w.ownsRow B 3 1 v m xs → v.ownBlock ≠ some ga := fun ho => own_block_ne ho h1 (by decide)
  have set4 : ∀ {v : Value} {m : Nat} {xs : List Value}, w.ownsRow B 3 1 v m xs → ((((w.setCell ⟨ga, i * 4, none⟩ (.int .i64 (f i).err)).setCell ⟨ga, i * 4 + 1, none⟩ (.bool (f i).hit)).setCell ⟨ga, i * 4 + 2, none⟩ (.int .i64 (f i).out)).setCell ⟨ga, i * 4 + 3, none⟩ (.slice A (f i).wrote.length c)).ownsRow B 3 1 v m xs := fun ho => own_setB (own_setB (own_setB (own_setB ho (hne ho)) (hne ho)) (hne ho)) (hne ho)
  refine ⟨(((cells.setIfInBounds (i * 4) (.int .i64 (f i).err)).setIfInBounds (i * 4 + 1) (.bool (f i).hit)).setIfInBounds (i * 4 + 2) (.int .i64 (f i).out)).setIfInBounds (i * 4 + 3) (.slice A (f i).wrote.length c), (((h1.put _ _).put _ _).put _ _).put _ _, by simpa using h2, fun j hj => ?_⟩
  have far : ∀ k, k < i * 4 ∨ i * 4 + 3 < k → ((((cells.setIfInBounds (i * 4) (.int .i64 (f i).err)).setIfInBounds (i * 4 + 1) (.bool (f i).hit)).setIfInBounds (i * 4 + 2) (.int .i64 (f i).out)).setIfInBounds (i * 4 + 3) (.slice A (f i).wrote.length c))[k]? = cells[k]? := fun k hk => by
    rw [Array.getElem?_setIfInBounds, if_neg (by omega), Array.getElem?_setIfInBounds, if_neg (by omega), Array.getElem?_setIfInBounds, if_neg (by omega), Array.getElem?_setIfInBounds, if_neg (by omega)]
  by_cases hij : j = i
  · subst hij
    refine ⟨A, c, ?_, ?_, ?_, ?_, set4 hw⟩
    · rw [Array.getElem?_setIfInBounds, if_neg (by omega), Array.getElem?_setIfInBounds, if_neg (by omega), Array.getElem?_setIfInBounds, if_neg (by omega), Array.getElem?_setIfInBounds, if_pos rfl, if_pos (by omega)]
    · rw [Array.getElem?_setIfInBounds, if_neg (by omega), Array.getElem?_setIfInBounds, if_neg (by omega), Array.getElem?_setIfInBounds, if_pos rfl, if_pos (by simp; omega)]
    · rw [Array.getElem?_setIfInBounds, if_neg (by omega), Array.getElem?_setIfInBounds, if_pos rfl, if_pos (by simp; omega)]
    · rw [Array.getElem?_setIfInBounds, if_pos rfl, if_pos (by simp; omega)]
  · obtain ⟨A', c', k1, k2, k3, k4, k5⟩ := h3 j (by omega)
    exact ⟨A', c', by rw [far _ (by omega)]; exact k1, by rw [far _ (by omega)]; exact k2, by rw [far _ (by omega)]; exact k3, by rw [far _ (by omega)]; exact k4, set4 k5⟩
/-- Where Play's loop stands. -/
structure PlS (w : World) (gp ga n : Nat) (room : Int) (os : List (Int × Int)) (v : Value) (i : Nat) (wr : World) : Prop where
  bel : Below w.heap.size w wr
  pg : PgA w.heap.size gp room (stN room os i) v wr
  acts : ActsIn wr w.heap.size ga n (acN room os) i
  ge : w.heap.size ≤ ga
theorem info_act : (Try.prog.info? 38).map (fun i => (i.zero, i.size, i.bytes)) = some (some (.agg #[.int .i64 0, .bool false, .int .i64 0, .slice none 0 0]), 4, 48) := by kernel_rfl
/-- What Play comes to. -/
def PlayP (w : World) (room : Int) (os : List (Int × Int)) (n : Nat) (e : Ending) (w' : World) : Prop :=
  ∃ ga m A c, e = .returned (.tuple #[.slice (some ⟨ga, 0, none⟩) n n, .slice A m c]) ∧ m = (stN room os n).length ∧ m ≤ c ∧ ActsIn w' w.heap.size ga n (acN room os) n ∧ w'.ownsRow w.heap.size 3 1 (.slice A m c) m (intV (pagesN (stN room os n))) ∧ Below w.heap.size w w'
theorem play_no (room : Int) (v : Value) (w : World) (h : room < 1 ∨ 64 < room) : Calls Try.prog 6 #[.int .i64 room, v] w fun e w' => e = .returned (.tuple #[.slice none 0 0, .slice none 0 0]) ∧ w' = w := by
  have C := Lib.hid (new_no room w h)
  clear h
  go_enter Try.func6, Try.ntmps6
  go_wp2_with fail
  refine C.out.mono ?_
  rintro e w1 ⟨rfl, rfl⟩
  go_wp2_with fail
  go_ret2
  exact ⟨rfl, rfl⟩
set_option maxRecDepth 100000 in
set_option maxHeartbeats 4000000 in
theorem play_ok (room : Int) (h1 : 1 ≤ room) (h2 : room ≤ 64) (A : Option Addr) (n c : Nat) (os : List (Int × Int)) (hn : n = os.length) (hz : n ≤ 300) (w : World) (hA : Seg w A (opsV os)) :
    Calls Try.prog 6 #[.int .i64 room, .slice A n c] w (PlayP w room os n) := by
  obtain ⟨i0, hi0, hz0, hz1, hz2⟩ := info_parts info_act
  have C := Lib.hid (new_ok room w h1 h2)
  have HN := Lib.hid hn
  have HA := Lib.hid hA
  clear hn hA h1 h2
  go_enter Try.func6, Try.ntmps6
  go_wp2_with fail
  refine C.out.mono ?_
  rintro e w1 ⟨rfl, hp, b1⟩
  have hmk : (Instr.makeSlice 23 (.int .i64 (n : Int)) (.int .i64 (n : Int))).run Try.prog w1 = .ok (.slice (some ⟨w1.heap.size, 0, none⟩) n n) (w1.alloc (.cells (madeCells #[.int .i64 0, .bool false, .int .i64 0, .slice none 0 0] (n * 4)) 38)) := by
    have := run_make (P := Try.prog) w1 23 38 i0 _ Try.underlying23 hi0 hz0 .i64 .i64 n n (by omega) (by omega) (by rw [hz2]; omega) (by omega)
    simpa [hz1, Value.cells] using this
  obtain ⟨w2, hw2⟩ : ∃ w2, w2 = w1.alloc (.cells (madeCells #[.int .i64 0, .bool false, .int .i64 0, .slice none 0 0] (n * 4)) 38) := ⟨_, rfl⟩
  have al : Below w1.heap.size w1 w2 := by rw [hw2]; exact (Below.refl _ _).alloc (Nat.le_refl _) _
  obtain ⟨gp, hgp⟩ : ∃ g, g = w.heap.size := ⟨_, rfl⟩
  obtain ⟨ga, hga⟩ : ∃ g, g = w1.heap.size := ⟨_, rfl⟩
  have HS := Lib.hid (show PlS w gp ga n room os (.slice none 0 0) 0 w2 from ⟨b1.trans (al.mono b1.size), by rw [hgp]; exact hp.bel al, ⟨_, by rw [hw2, hga]; exact Bk.new w1 _ _, size_madeCells _ _, fun j hj => by omega⟩, by rw [hga]; exact b1.size⟩)
  have HW2 := Lib.hid hw2
  have HGP := Lib.hid hgp
  have HGA := Lib.hid hga
  clear hp b1 al hw2 C hgp hga
  go_upto_region 5 with fail
  rw [← HW2.out, ← HGP.out, ← HGA.out]
  clear hmk HW2 HGA
  go_wp2_with fail
  go_loopw [23] (fun s wr => ∃ (i : Nat) (v : Value), i ≤ n ∧ s = .int .i64 i ∧ Hid (PlS w gp ga n room os v i wr)) (fun s _ => n - (intOf s).toNat)
  case atStart => exact ⟨0, _, by omega, rfl, HS⟩
  case round =>
    clear HS
    obtain ⟨i, v, hin, rfl, hS⟩ := hrel
    by_cases hlt : i < n
    · have hil : i < os.length := by have := HN.out; omega
      obtain ⟨b, off, rfl, hbl, hcell⟩ := HA.out (by intro e; have := congrArg List.length e; rw [opsV_length] at this; simp only [List.length_nil] at this; omega)
      obtain ⟨kp, hkp⟩ : ∃ o, o = os[i] := ⟨_, rfl⟩
      have hgd : os.getD i (0, 0) = kp := by rw [hkp]; simp [hil]
      have rd : ∀ k, k < 2 → wr.cell? ⟨b, off + (i * 2 + k), none⟩ = (opV kp)[k]? := fun k hk => by
        rw [World.cell?_of_block (hS.out.bel.block b hbl), hcell (i * 2 + k) (by rw [opsV_length]; omega), opsV_at hil hk, hkp]
      have c0 : wr.cell? ⟨b, off + i * 2, none⟩ = some (.int .i64 kp.1) := by have := rd 0 (by omega); rw [Nat.add_zero] at this; exact this
      have c1 : wr.cell? ⟨b, off + i * 2 + 1, none⟩ = some (.int .i64 kp.2) := by have := rd 1 (by omega); rw [← Nat.add_assoc] at this; exact this
      have HSTE := Lib.hid (show (doM room (stN room os i) kp.1 kp.2).1 = stN room os (i + 1) ∧ (doM room (stN room os i) kp.1 kp.2).2 = acN room os i by rw [← hgd]; exact ⟨rfl, rfl⟩)
      obtain ⟨k, p⟩ := kp
      dsimp only at c0 c1 HSTE
      obtain ⟨w3, hw3⟩ : ∃ w3, w3 = wr.alloc (.cells #[.int .i64 k, .int .i64 p] 31) := ⟨_, rfl⟩
      have al3 : Below wr.heap.size wr w3 := by rw [hw3]; exact (Below.refl _ _).alloc (Nat.le_refl _) _
      have HX3 := Lib.hid (show Bk w3 wr.heap.size 31 #[.int .i64 k, .int .i64 p] by rw [hw3]; exact Bk.new wr _ _)
      have HP3 := Lib.hid (hS.out.pg.bel al3)
      have HT3 := Lib.hid (hS.out.acts.bel al3)
      have HB3 := Lib.hid (hS.out.bel.trans (al3.mono hS.out.bel.size))
      have GR := st_grows room os i
      have CD := Lib.hid (do_any w.heap.size gp room (stN room os i) v w3 HP3.out (by omega) k p (fun s hs => by have := GR.2 s hs; omega))
      have E1 := Lib.hid (show ((i : Int) + 1) = ((i + 1 : Nat) : Int) by omega)
      have MM := Lib.hid (show n - (intOf (.int .i64 ((i + 1 : Nat) : Int))).toNat < n - (intOf (.int .i64 (i : Int))).toNat by simp only [intOf]; omega)
      have i1 : (0 : Int) ≤ (i : Int) := by omega
      have i2 : (i : Int) < (n : Int) := by omega
      have HGE := Lib.hid hS.out.ge
      have HW3 := Lib.hid hw3
      clear rd hkp hgd hcell hw3 al3 hS GR
      go_upto_region 8 with fail
      rw [← HW3.out]
      have y0 := HX3.out.cell 0
      have y1 := HX3.out.cell 1
      clear c0 c1
      go_wp2_with fail
      refine CD.out.mono ?_
      rintro e w4 ⟨Wv, v', rfl, ho, hp, hk⟩
      have ht := HT3.out.kp HP3.out hk
      have hb4 : Below w.heap.size w w4 := HB3.out.trans (hk.below (fun j hj => by
        rcases hj with e | e
        · have := HP3.out.ge; omega
        · rcases own_shapeH HP3.out.row with ⟨h1, _⟩ | ⟨g, cap, h1, h2, _⟩
          · rw [h1] at e; cases e
          · rw [h1] at e
            have : g = j := by simpa [Value.ownBlock] using e
            omega) HB3.out.size)
      rw [HSTE.out.2] at ho ⊢
      rw [HSTE.out.1] at hp
      obtain ⟨AW, cW, rfl, _⟩ := own_shapeS ho
      have ho2 := World.ownsRow.mono ho HB3.out.size
      obtain ⟨cells, hbk, hcs, _⟩ := ht
      have rdc : ∀ t, t < n * 4 → ∃ u, w4.cell? ⟨ga, t, none⟩ = some u := fun t htt => ⟨cells[t]'(by omega), by rw [hbk.cell t]; exact Array.getElem?_eq_getElem _⟩
      obtain ⟨u0, q0⟩ := rdc (i * 4) (by omega)
      obtain ⟨u1, q1⟩ := rdc (i * 4 + 1) (by omega)
      obtain ⟨u2, q2⟩ := rdc (i * 4 + 2) (by omega)
      obtain ⟨u3, q3⟩ := rdc (i * 4 + 3) (by omega)
      have k0 := hbk.frozen (i * 4)
      have k1 := hbk.frozen (i * 4 + 1)
      have k2 := hbk.frozen (i * 4 + 2)
      have k3 := hbk.frozen (i * 4 + 3)
      have hgg : ¬ gp = ga := fun e => by
        subst e
        have e2 := hp.bk
        unfold Bk at hbk e2
        rw [hbk] at e2
        injection e2 with e2
        injection e2 with _ e2
        revert e2
        decide
      have nV : v'.ownBlock ≠ some ga := own_block_ne hp.row hbk (by decide)
      have ht2 := HT3.out.kp HP3.out hk
      have NX := Lib.hid (show PlS w gp ga n room os v' (i + 1) ((((w4.setCell ⟨ga, i * 4, none⟩ (.int .i64 (acN room os i).err)).setCell ⟨ga, i * 4 + 1, none⟩ (.bool (acN room os i).hit)).setCell ⟨ga, i * 4 + 2, none⟩ (.int .i64 (acN room os i).out)).setCell ⟨ga, i * 4 + 3, none⟩ (.slice AW (acN room os i).wrote.length cW)) from
        ⟨(((hb4.setCell (p := ⟨ga, i * 4, none⟩) HGE.out _).setCell (p := ⟨ga, i * 4 + 1, none⟩) HGE.out _).setCell (p := ⟨ga, i * 4 + 2, none⟩) HGE.out _).setCell (p := ⟨ga, i * 4 + 3, none⟩) HGE.out _,
          ⟨bk_set2 (bk_set2 (bk_set2 (bk_set2 hp.bk hgg) hgg) hgg) hgg, own_setB (own_setB (own_setB (own_setB hp.row nV) nV) nV) nV, hp.ge, by simpa [World.setCell] using hp.base⟩,
          ht2.put hlt ho2, HGE.out⟩)
      obtain ⟨ac, hac⟩ : ∃ a, a = acN room os i := ⟨_, rfl⟩
      rw [← hac] at NX ⊢
      clear ho ho2 hp hk hbk hcs rdc nV ht2 hb4 hac HT3 HP3 HB3 HX3 CD HSTE
      obtain ⟨ae, ah, ao, aw⟩ := ac
      dsimp only at NX ⊢
      go_wp2_with fail
      rw [E1.out]
      exact ⟨⟨i + 1, v', by omega, rfl, NX⟩, MM.out⟩
    · obtain rfl : i = n := by omega
      have GR := st_grows room os i
      have CP := Lib.hid (pages_any w.heap.size gp room (stN room os i) v wr hS.out.pg (by omega))
      clear GR
      go_wp2_with fail
      refine CP.out.mono ?_
      rintro e w4 ⟨⟨B, d, rfl, hd, ho⟩, b4⟩
      have FIN := Lib.hid (show ActsIn w4 w.heap.size ga i (acN room os) i ∧ w4.ownsRow w.heap.size 3 1 (.slice B (stN room os i).length d) (stN room os i).length (intV (pagesN (stN room os i))) ∧ Below w.heap.size w w4 from ⟨hS.out.acts.bel b4, World.ownsRow.mono ho hS.out.bel.size, hS.out.bel.trans (b4.mono hS.out.bel.size)⟩)
      clear ho b4 hS CP
      go_wp2_with fail
      go_ret2
      exact ⟨ga, _, B, d, rfl, rfl, hd, FIN.out.1, FIN.out.2.1, FIN.out.2.2⟩
end Go.Proofs.Ytfbpagbfdccgfaa
