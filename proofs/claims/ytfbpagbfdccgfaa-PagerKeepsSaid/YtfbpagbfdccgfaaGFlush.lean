/- The pager's flush. Condition: the pager lies in memory and has few pages. -/
import Derived.Test.YtfbpagbfdccgfaaGChg
namespace Go.Proofs.Ytfbpagbfdccgfaa
open Go.RowKit

theorem info_int : (Try.prog.info? 3).map (fun i => (i.zero, i.size, i.bytes)) = some (some (.int .i64 0), 1, 8) := by kernel_rfl
def cleanH (h : HeldM) : HeldM := ⟨h.page, h.pins, false⟩
/-- The row, its first i pages written back. -/
def clT (l : List HeldM) (i : Nat) : List HeldM := (l.take i).map cleanH ++ l.drop i
def dirtyN (l : List HeldM) : List Int := (l.filter (·.turned)).map (·.page)
def flushM (l : List HeldM) : List HeldM × ActM := (l.map cleanH, ⟨0, false, -1, sortI (dirtyN l)⟩)
theorem clT_length (l : List HeldM) (i : Nat) (hi : i ≤ l.length) : (clT l i).length = l.length := by unfold clT; simp; omega
theorem clT_at {l : List HeldM} {i : Nat} (hi : i < l.length) (h : i < (clT l i).length) : (clT l i)[i] = l[i] := by
  have e : (clT l i)[i]? = some l[i] := by
    unfold clT
    rw [List.getElem?_append_right (by simp; omega)]
    simp [List.length_take, Nat.min_eq_left (Nat.le_of_lt hi), hi]
  rw [List.getElem?_eq_getElem h] at e
  exact Option.some.inj e
theorem clT_next {l : List HeldM} {i : Nat} (hi : i < l.length) : clT l (i + 1) = (clT l i).set i (cleanH l[i]) := by
  have hlen : ((l.take i).map cleanH).length = i := by simp; omega
  unfold clT
  rw [List.set_append_right _ _ (by omega), hlen, Nat.sub_self, List.drop_eq_getElem_cons hi, List.set_cons_zero, List.take_succ_eq_append_getElem hi, List.map_append, List.append_assoc]
  rfl
theorem clean_self {h : HeldM} (ht : h.turned = false) : cleanH h = h := by obtain ⟨a, b, c⟩ := h; dsimp only at ht; subst ht; rfl
theorem set_self {l : List HeldM} {i : Nat} {h : i < l.length} {x : HeldM} (hx : l[i] = x) : l.set i x = l := by subst hx; exact List.set_getElem_self _
theorem dirty_next {l : List HeldM} {i : Nat} (hi : i < l.length) : dirtyN (l.take (i + 1)) = dirtyN (l.take i) ++ if l[i].turned then [l[i].page] else [] := by
  unfold dirtyN
  rw [List.take_succ_eq_append_getElem hi, List.filter_append, List.map_append]
  congr 1
  cases h : l[i].turned <;> simp [List.filter, h]
theorem dirty_le (l : List HeldM) (i : Nat) : (dirtyN (l.take i)).length ≤ l.length := by
  unfold dirtyN
  rw [List.length_map]
  exact Nat.le_trans (List.length_filter_le _ _) (by rw [List.length_take]; omega)
theorem intV_snoc (l : List Int) (x : Int) : intV (l ++ [x]) = intV l ++ [.int .i64 x] := by simp [intV]
/-- Each operation's fact. -/
def fuF (B gO : Nat) (ws : List Int) (K : Value) (g o : Nat) (pa : Int) (wr : World) (j : Nat) (v _u : Value) (w : World) : Prop := match j with
  | 0 => v = .pointer (some ⟨gO, 3, none⟩)
  | 1 => v = K
  | 2 => v = .pointer (some ⟨g, o, none⟩)
  | 3 => v = .pointer (some ⟨g, o, none⟩)
  | 4 => v = .pointer (some ⟨g, o, none⟩)
  | 5 => v = .int .i64 pa
  | 6 => ∃ gq, v = .slice (some ⟨gq, 0, none⟩) 1 1 ∧ B ≤ gq ∧ gq ≠ gO ∧ K.ownBlock ≠ some gq ∧ Bk w gq 3 #[.int .i64 pa]
  | 7 => w.ownsRow B 3 1 v (ws.length + 1) (intV ws ++ [.int .i64 pa]) ∧ (v.ownBlock = K.ownBlock ∨ ∃ g, v.ownBlock = some g ∧ wr.heap.size ≤ g)
  | 8 => v = .pointer (some ⟨gO, 3, none⟩)
  | 9 => ∃ v', Bk w gO 38 #[.int .i64 0, .bool false, .int .i64 (-1), v'] ∧ w.ownsRow B 3 1 v' (ws.length + 1) (intV ws ++ [.int .i64 pa]) ∧ (v'.ownBlock = K.ownBlock ∨ ∃ g, v'.ownBlock = some g ∧ wr.heap.size ≤ g)
  | _ => True
def fuH (B gO : Nat) (ws : List Int) (K : Value) (m : Nat) (w : World) : Prop := match m with
  | 7 => w.ownsRow B 3 1 K ws.length (intV ws)
  | 9 => Bk w gO 38 #[.int .i64 0, .bool false, .int .i64 (-1), K]
  | _ => True
section
variable {B gO g o : Nat} {ws : List Int} {K : Value} {pa : Int} {wr w w' : World}
theorem fuF_bel (hb : Below w.heap.size w w') : ∀ j u u', fuF B gO ws K g o pa wr j u u' w → fuF B gO ws K g o pa wr j u u' w' := by
  intro j u u' s
  unfold fuF at *
  split at s <;> first | exact s | exact ⟨kept_bel s.1 hb, s.2⟩ | skip
  · obtain ⟨g, hv, h0, h1, h2, h3⟩ := s
    exact ⟨g, hv, h0, h1, h2, h3.bel hb⟩
  · obtain ⟨v', h1, h2, h3⟩ := s
    exact ⟨v', h1.bel hb, kept_bel h2 hb, h3⟩
theorem fuH_bel (hb : Below w.heap.size w w') : ∀ m, fuH B gO ws K m w → fuH B gO ws K m w' := by
  intro m s
  unfold fuH at *
  split at s <;> first | exact s | exact s.bel hb | exact kept_bel s hb
theorem fuF_app (k : w.grownBy w' K.ownBlock) : ∀ j, j ≠ 7 → j ≠ 9 → ∀ u u', fuF B gO ws K g o pa wr j u u' w → fuF B gO ws K g o pa wr j u u' w' := by
  intro j h7 h10 u u' s
  unfold fuF at *
  split at s <;> first | exact s | exact absurd rfl h7 | exact absurd rfl h10 | skip
  · obtain ⟨g, hv, h0, h1, h2, h3⟩ := s
    exact ⟨g, hv, h0, h1, h2, own_grown k h3 h2⟩
theorem fuH_app (k : w.grownBy w' K.ownBlock) (h3 : K.ownBlock ≠ some gO) : ∀ m, m ≠ 7 → fuH B gO ws K m w → fuH B gO ws K m w' := by
  intro m h7 s
  unfold fuH at *
  split at s <;> first | exact s | exact absurd rfl h7 | exact own_grown k s h3
theorem fuF_set {cs : Array Value} (hb : Bk w gO 38 cs) (i : Nat) (u0 : Value) : ∀ j, j ≠ 9 → ∀ u u', fuF B gO ws K g o pa wr j u u' w → fuF B gO ws K g o pa wr j u u' (w.setCell ⟨gO, i, none⟩ u0) := by
  intro j h10 u u' s
  unfold fuF at *
  split at s <;> first | exact s | exact absurd rfl h10 | skip
  · obtain ⟨g, hv, h0, h1, h2, h3⟩ := s
    exact ⟨g, hv, h0, h1, h2, bk_set2 h3 h1⟩
  · exact ⟨own_setB s.1 (own_block_ne s.1 hb (by decide)), s.2⟩
theorem fuH_set {cs : Array Value} (hb : Bk w gO 38 cs) (i : Nat) (u0 : Value) : ∀ m, m ≠ 9 → fuH B gO ws K m w → fuH B gO ws K m (w.setCell ⟨gO, i, none⟩ u0) := by
  intro m h10 s
  unfold fuH at *
  split at s <;> first | exact s | exact absurd rfl h10 | exact own_setB s (own_block_ne s hb (by decide))
end
/-- Where the loop of flush stands. -/
structure FlS (B gp : Nat) (room : Int) (l : List HeldM) (v W : Value) (k : Nat) (ws : List Int) (w wr : World) : Prop where
  pg : PgA B gp room l v wr
  kp : Kp (pS gp v) (pS gp v) w wr
  res : Bk wr w.heap.size 38 #[.int .i64 0, .bool false, .int .i64 0, .slice none 0 0]
  act : Bk wr (w.heap.size + 1) 38 #[.int .i64 0, .bool false, .int .i64 (-1), W]
  wrote : wr.ownsRow w.heap.size 3 1 W k (intV ws)
  lt : gp < w.heap.size
  low : ∀ k, v.ownBlock = some k → k < w.heap.size
theorem FlS.bel {B gp : Nat} {room : Int} {l : List HeldM} {v W : Value} {k : Nat} {ws : List Int} {w wr w' : World} (s : FlS B gp room l v W k ws w wr) (hb : Below wr.heap.size wr w') : FlS B gp room l v W k ws w w' :=
  ⟨s.pg.bel hb, s.kp.trans (Kp.of_bel hb _), s.res.bel hb, s.act.bel hb, kept_bel s.wrote hb, s.lt, s.low⟩
theorem own_lenI {w : World} {B n : Nat} {v : Value} {l : List Int} (h : w.ownsRow B 3 1 v n (intV l)) : n = l.length := by
  have := h.1
  rw [intV_length] at this
  omega
set_option maxRecDepth 100000 in
set_option maxHeartbeats 8000000 in
theorem flush_any (B gp : Nat) (room : Int) (l : List HeldM) (v : Value) (w : World) (h : PgA B gp room l v w) (hl : l.length ≤ 1000000) :
    Calls Try.prog 19 #[.pointer (some ⟨gp, 0, none⟩)] w (DoP B gp room v w (flushM l)) := by
  obtain ⟨j0, hj0, hj1, hj2, hj3⟩ := info_parts info_int
  obtain ⟨W2, hW2⟩ : ∃ W2, W2 = (w.alloc (.cells #[.int .i64 0, .bool false, .int .i64 0, .slice none 0 0] 38)).alloc (.cells #[.int .i64 0, .bool false, .int .i64 (-1), .slice none 0 0] 38) := ⟨_, rfl⟩
  have al : Below w.heap.size w W2 := by rw [hW2]; exact ((Below.refl _ _).alloc (Nat.le_refl _) _).alloc (by simp) _
  have HS2 := Lib.hid (show FlS B gp room (clT l 0) v (.slice none 0 0) 0 (dirtyN (l.take 0)) w W2 by
    refine ⟨?_, Kp.of_bel al _, ?_, ?_, World.ownsRow_nil _ _ _ _, h.bk.lt, fun k hk => ?_⟩
    · unfold clT
      simpa using h.bel al
    · rw [hW2]; exact (Bk.new w _ _).alloc _
    · rw [hW2]
      have k1 := Bk.new (w.alloc (.cells #[.int .i64 0, .bool false, .int .i64 0, .slice none 0 0] 38)) 38 #[.int .i64 0, .bool false, .int .i64 (-1), .slice none 0 0]
      rw [World.size_alloc] at k1
      exact k1
    · rcases own_shapeH h.row with ⟨h1, _⟩ | ⟨g, cap, h1, h2, h3, _⟩
      · rw [h1] at hk; cases hk
      · rw [h1] at hk
        have : g = k := by simpa [Value.ownBlock] using hk
        subst this
        exact h3)
  have HW2 := Lib.hid hW2
  have HSH := Lib.hid (own_shapeH h.row)
  obtain ⟨r, hr⟩ : ∃ r, r = flushM l := ⟨_, rfl⟩
  rw [← hr]
  have HR := Lib.hid hr
  have y1 := HS2.out.pg.bk.cell 1
  clear h al hW2 hr
  obtain ⟨Av, nv, cv, hv, hn, hnil⟩ : ∃ A n c, v = .slice A n c ∧ n = l.length ∧ (l ≠ [] → ∃ g, A = some ⟨g, 0, none⟩) := by
    rcases HSH.out with ⟨h1, h2⟩ | ⟨g, cap, h1, _⟩
    · exact ⟨none, 0, 0, h1, by rw [h2]; rfl, fun h => absurd h2 h⟩
    · exact ⟨_, _, _, h1, rfl, fun _ => ⟨g, rfl⟩⟩
  subst hv
  have HN := Lib.hid hn
  have hnb : nv ≤ 1000000 := by omega
  have HNIL := Lib.hid hnil
  clear hn hnil HSH
  go_enter Try.func19, Try.ntmps19
  go_upto_region 2 with fail
  rw [← HW2.out]
  go_wp2_with fail
  go_loopw [12] (fun s wr => ∃ (i k : Nat) (W : Value), i ≤ nv ∧ s = .int .i64 i ∧ Hid (FlS B gp room (clT l i) (.slice Av nv cv) W k (dirtyN (l.take i)) w wr)) (fun s _ => nv - (intOf s).toNat)
  case atStart => exact ⟨0, 0, .slice none 0 0, by omega, rfl, HS2⟩
  case round =>
    clear HS2 y1 HW2
    obtain ⟨i, k, W, hin, rfl, hS⟩ := hrel
    obtain ⟨AW, cW, rfl, hck⟩ := own_shapeS hS.out.wrote
    have y1 := hS.out.pg.bk.cell 1
    by_cases hlt : i < nv
    · have hil : i < l.length := by have := HN.out; omega
      obtain ⟨g, rfl⟩ := HNIL.out (by intro e; rw [e] at hil; simp at hil)
      have hcl : i < (clT l i).length := by rw [clT_length l i (by omega)]; exact hil
      have hlen : (clT l i).length = nv := by rw [clT_length l i (by omega)]; exact HN.out.symm
      have hrow : wr.ownsRow B 61 3 (.slice (some ⟨g, 0, none⟩) nv cv) nv (rowH (clT l i)) := by have := hS.out.pg.row; rwa [hlen] at this
      obtain ⟨cur, hb, hnc, _, hcs, _, _⟩ := own_cellsH hrow
      obtain ⟨s, hs⟩ : ∃ s, s = l[i] := ⟨_, rfl⟩
      have hat : (clT l i)[i] = s := by rw [clT_at hil hcl, hs]
      have c0 : wr.cell? ⟨g, i * 3, none⟩ = some (.int .i64 s.page) := by have := own_cellH hrow hcl 0 (by omega); rw [hat, Nat.add_zero] at this; exact this
      have c2 : wr.cell? ⟨g, i * 3 + 2, none⟩ = some (.bool s.turned) := by have := own_cellH hrow hcl 2 (by omega); rw [hat] at this; exact this
      have f2 := hb.frozen (i * 3 + 2)
      have E1 := Lib.hid (show ((i : Int) + 1) = ((i + 1 : Nat) : Int) by omega)
      have MM := Lib.hid (show nv - (intOf (.int .i64 ((i + 1 : Nat) : Int))).toNat < nv - (intOf (.int .i64 (i : Int))).toNat by simp only [intOf]; omega)
      have CN := Lib.hid (clT_next hil)
      have DN := Lib.hid (dirty_next hil)
      have HAT := Lib.hid hat
      have HCL := Lib.hid hcl
      have HLN := Lib.hid hlen
      rw [← hs] at CN DN
      have i1 : (0 : Int) ≤ (i : Int) := by omega
      have i2 : (i : Int) < (nv : Int) := by omega
      obtain ⟨pa, pb, pc⟩ := s
      dsimp only at c0 c2 CN DN
      clear hb hcs hnc hrow hat hs hlen
      cases pc
      · have CN2 := Lib.hid (show clT l (i + 1) = clT l i by
          rw [CN.out]
          exact set_self HAT.out)
        have DN2 := Lib.hid (show dirtyN (l.take (i + 1)) = dirtyN (l.take i) by rw [DN.out]; simp)
        clear CN DN
        go_wp2_with fail
        rw [E1.out]
        refine ⟨⟨i + 1, k, .slice AW k cW, by omega, rfl, ?_⟩, MM.out⟩
        rw [CN2.out, DN2.out]
        exact hS
      · have DN2 := Lib.hid (show dirtyN (l.take (i + 1)) = dirtyN (l.take i) ++ [pa] by rw [DN.out]; simp)
        clear DN
        obtain ⟨ws, hws⟩ : ∃ ws, ws = dirtyN (l.take i) := ⟨_, rfl⟩
        have HWS := Lib.hid (show ws.length ≤ 1000000 by rw [hws]; exact Nat.le_trans (dirty_le l i) hl)
        rw [← hws] at hS DN2
        clear hws
        obtain rfl : k = ws.length := own_lenI hS.out.wrote
        obtain ⟨W5, hW5⟩ : ∃ W5, W5 = wr := ⟨_, rfl⟩
        rw [← hW5] at hS c0 c2 f2 y1 ⊢
        clear hW5
        have nlow : ¬ g = w.heap.size + 1 := by have := hS.out.low g rfl; omega
        have nW : Value.ownBlock (.slice AW ws.length cW) ≠ some g := fun e => own_types_ne hS.out.wrote hS.out.pg.row (by decide) e rfl
        have nWp : Value.ownBlock (.slice AW ws.length cW) ≠ some gp := own_block_ne hS.out.wrote hS.out.pg.bk (by decide)
        have nWr : Value.ownBlock (.slice AW ws.length cW) ≠ some w.heap.size := own_block_ne hS.out.wrote hS.out.res (by decide)
        have HNS := Lib.hid (show ∀ j, (j = g ∨ j = gp ∨ j = w.heap.size) → ¬ pS (w.heap.size + 1) (.slice AW ws.length cW) j from fun j hj e => by
          have h1 := hS.out.lt
          have h2 := hS.out.low g rfl
          rcases e with e | e
          · rcases hj with hj | hj | hj <;> omega
          · rcases hj with hj | hj | hj
            · subst hj; exact nW e
            · subst hj; exact nWp e
            · subst hj; exact nWr e)
        have HC5 := Lib.hid (show ∀ w1, Kp (pS (w.heap.size + 1) (.slice AW ws.length cW)) (pS (w.heap.size + 1) (.slice AW ws.length cW)) W5 w1 → w1.cell? ⟨g, i * 3, none⟩ = some (.int .i64 pa) from fun w1 kk => by
          rw [kk.cell (o := i * 3) (show g < W5.heap.size from Nat.lt_of_lt_of_le (hS.out.low g rfl) hS.out.kp.size) (HNS.out g (Or.inl rfl))]
          exact c0)
        have G0 := Lib.hid (show puG w.heap.size (w.heap.size + 1) (.slice AW ws.length cW) W5 W5.drew from ⟨(Kp.refl _ W5).drew, hS.out.act.lt, fun b e => by
          rcases hS.out.wrote.2 with ⟨h1, _⟩ | ⟨g', cap, cur, h1, h2, h3, _⟩
          · rw [h1] at e; cases e
          · rw [h1] at e
            have : g' = b := by simpa [Value.ownBlock] using e
            subst this
            exact ⟨h2, Bk.lt (show Bk W5 g' 3 cur from h3)⟩, hS.out.kp.size⟩)
        have H0 := Lib.hid (show ∀ m', m' < 10 → fuH w.heap.size (w.heap.size + 1) ws (.slice AW ws.length cW) m' W5.drew from fun m' _ => by
          unfold fuH
          split
          · exact kept_bel hS.out.wrote (Below.refl _ _).drew
          · exact hS.out.act
          · trivial)
        clear nW nWp nWr
        go_wp2_with fail
        refine wp_region_late [some 25, some 26, some 27, some 28, some 29, some 30, some 31, some 32, some 33, none] (fun _ => 0) (fuF w.heap.size (w.heap.size + 1) ws (.slice AW ws.length cW) g (i * 3) pa W5) (puG w.heap.size (w.heap.size + 1) (.slice AW ws.length cW) W5) (fuH w.heap.size (w.heap.size + 1) ws (.slice AW ws.length cW)) (by kernel_rfl) G0.out H0.out rfl (by kernel_rfl) (by kernel_rfl) (by kernel_rfl) (by kernel_rfl) (fun T hT => ?_)
        simp only [List.filterMap_cons, List.filterMap_nil, id, putsS, Act.put, List.setIfInBounds_toArray, List.set_cons_zero, List.set_cons_succ] at hT
        subst hT
        refine ⟨⟨?_, ?_, ?_, ?_, ?_, ?_, ?_, ?_, ?_, ?_, trivial⟩, ?_⟩
        · -- 0: Op.fieldAddr 38 t3 3
          intro f w1 hG hO hL hF K hK
          clear hF hO hL
          dsimp only at hK ⊢
          go_simp
          exact hK.out _ _ hG rfl (fun _ _ _ h => h) (fun _ _ h => h)
        · -- 1: Op.load 24 t25
          intro f w1 hG hO hL hF K hK
          have l9 : (fuH w.heap.size (w.heap.size + 1) ws (.slice AW ws.length cW)) 9 w1 := hL 9 (Nat.le_of_ble_eq_true (by kernel_rfl)) (by kernel_rfl)
          have d0 : (fuF w.heap.size (w.heap.size + 1) ws (.slice AW ws.length cW) g (i * 3) pa W5) 0 (f 25) (f 0) w1 := hF 0 (by kernel_rfl)
          clear hF hO hL
          dsimp only at hK ⊢
          generalize hf25 : f 25 = v25 at *
          subst d0
          have y : w1.cell? ⟨(w.heap.size + 1), 3, none⟩ = some (.slice AW ws.length cW) := Bk.cell l9 3
          go_simp
          exact hK.out _ _ hG rfl (fun _ _ _ h => h) (fun _ _ h => h)
        · -- 2: Op.move t5
          intro f w1 hG hO hL hF K hK
          clear hF hO hL
          dsimp only at hK ⊢
          go_simp
          exact hK.out _ _ hG rfl (fun _ _ _ h => h) (fun _ _ h => h)
        · -- 3: Op.nilCheck t27
          intro f w1 hG hO hL hF K hK
          have d2 : (fuF w.heap.size (w.heap.size + 1) ws (.slice AW ws.length cW) g (i * 3) pa W5) 2 (f 27) (f 0) w1 := hF 2 (by kernel_rfl)
          clear hF hO hL
          dsimp only at hK ⊢
          generalize hf27 : f 27 = v27 at *
          subst d2
          go_simp
          exact hK.out _ _ hG rfl (fun _ _ _ h => h) (fun _ _ h => h)
        · -- 4: Op.fieldAddr 61 t28 0
          intro f w1 hG hO hL hF K hK
          have d3 : (fuF w.heap.size (w.heap.size + 1) ws (.slice AW ws.length cW) g (i * 3) pa W5) 3 (f 28) (f 0) w1 := hF 3 (by kernel_rfl)
          clear hF hO hL
          dsimp only at hK ⊢
          generalize hf28 : f 28 = v28 at *
          subst d3
          go_simp
          exact hK.out _ _ hG rfl (fun _ _ _ h => h) (fun _ _ h => h)
        · -- 5: Op.load 3 t29
          intro f w1 hG hO hL hF K hK
          have d4 : (fuF w.heap.size (w.heap.size + 1) ws (.slice AW ws.length cW) g (i * 3) pa W5) 4 (f 29) (f 0) w1 := hF 4 (by kernel_rfl)
          clear hF hO hL
          dsimp only at hK ⊢
          generalize hf29 : f 29 = v29 at *
          subst d4
          have y := HC5.out w1 hG.kp
          go_simp
          exact hK.out _ _ hG rfl (fun _ _ _ h => h) (fun _ _ h => h)
        · -- 6: Op.buildSlice 24 1 #[(0, t30)]
          intro f w1 hG hO hL hF K hK
          have d5 : (fuF w.heap.size (w.heap.size + 1) ws (.slice AW ws.length cW) g (i * 3) pa W5) 5 (f 30) (f 0) w1 := hF 5 (by kernel_rfl)
          clear hF hO hL
          dsimp only at hK ⊢
          generalize hf30 : f 30 = v30 at *
          subst d5
          go_simp
          exact hK.out _ _ (hG.next ((Below.refl _ _).alloc (Nat.le_refl _) _)) ⟨w1.heap.size, rfl, hG.base, (fun e => absurd hG.lt (by omega)), (fun e => absurd (hG.kl _ e).2 (Nat.lt_irrefl _)), Bk.new w1 _ _⟩ (fun j _ _ h => fuF_bel ((Below.refl _ _).alloc (Nat.le_refl _) _) j _ _ h) (fun m _ h => fuH_bel ((Below.refl _ _).alloc (Nat.le_refl _) _) m h)
        · -- 7: Op.call ( builtin append, args := #[t26, t31], argTypes := #[24, 24] )
          intro f w1 hG hO hL hF K hK
          have l7 : (fuH w.heap.size (w.heap.size + 1) ws (.slice AW ws.length cW)) 7 w1 := hL 7 (Nat.le_of_ble_eq_true (by kernel_rfl)) (by kernel_rfl)
          have l9 : (fuH w.heap.size (w.heap.size + 1) ws (.slice AW ws.length cW)) 9 w1 := hL 9 (Nat.le_of_ble_eq_true (by kernel_rfl)) (by kernel_rfl)
          have d1 : (fuF w.heap.size (w.heap.size + 1) ws (.slice AW ws.length cW) g (i * 3) pa W5) 1 (f 26) (f 0) w1 := hF 1 (by kernel_rfl)
          have d6 : (fuF w.heap.size (w.heap.size + 1) ws (.slice AW ws.length cW) g (i * 3) pa W5) 6 (f 31) (f 0) w1 := hF 6 (by kernel_rfl)
          clear hF hO hL
          dsimp only at hK ⊢
          generalize hf26 : f 26 = v26 at *
          generalize hf31 : f 31 = v31 at *
          have d1 : v26 = (.slice AW ws.length cW) := d1
          subst d1
          obtain ⟨gq, rfl, h0, h1, h2, h3⟩ := d6
          have hcb : ∀ j u, [Value.int .i64 pa][j]? = some u → w1.cell? ((⟨gq, 0, none⟩ : Addr).add j) = some u := fun j u hu => by
            rw [show ((⟨gq, 0, none⟩ : Addr).add j) = ⟨gq, j, none⟩ by unfold Addr.add; split <;> simp_all, h3.cell j]; simpa using hu
          obtain ⟨v', w2', hrun, hown, hgr, _, hat⟩ := run_append_own_at (P := Try.prog) (w := w1) w.heap.size 24 24 3 j0 _ 1 8 Try.underlying24 hj0 hj1 hj2 hj3 rfl (by decide) (.slice AW ws.length cW) ws.length (intV ws) l7 ⟨gq, 0, none⟩ 1 1 [.int .i64 pa] rfl hcb (by intro u hu; simp only [List.mem_singleton] at hu; subst hu; rfl) (by have := HWS.out; simp only [maxLen]; omega) (by have := HWS.out; omega) hG.base
          have nkg : Value.ownBlock (.slice AW ws.length cW) ≠ some (w.heap.size + 1) := own_block_ne l7 l9 (by decide)
          refine Lib.wp_append_run w1 _ _ _ _ rfl _ _ rfl rfl _ w2' hrun (hK.out v' w2' (hG.app hgr) ⟨hown, hat.imp id (fun e => ⟨_, e, hG.kp.size⟩)⟩ ?_ (fun m hm h => fuH_app hgr nkg m hm h))
          intro j hj hdep h
          by_cases h10 : j = 9
          · subst h10
            exact absurd hdep (by rw [show depS _ 9 7 = true by kernel_rfl]; decide)
          · exact fuF_app hgr j hj h10 _ _ h
        · -- 8: Op.fieldAddr 38 t3 3
          intro f w1 hG hO hL hF K hK
          clear hF hO hL
          dsimp only at hK ⊢
          go_simp
          exact hK.out _ _ hG rfl (fun _ _ _ h => h) (fun _ _ h => h)
        · -- 9: Op.store 24 t33 t32
          intro f w1 hG hO hL hF K hK
          have l9 : (fuH w.heap.size (w.heap.size + 1) ws (.slice AW ws.length cW)) 9 w1 := hL 9 (Nat.le_of_ble_eq_true (by kernel_rfl)) (by kernel_rfl)
          have d8 : (fuF w.heap.size (w.heap.size + 1) ws (.slice AW ws.length cW) g (i * 3) pa W5) 8 (f 33) (f 0) w1 := hF 8 (by kernel_rfl)
          have d7 : (fuF w.heap.size (w.heap.size + 1) ws (.slice AW ws.length cW) g (i * 3) pa W5) 7 (f 32) (f 0) w1 := hF 7 (by kernel_rfl)
          clear hF hO hL
          dsimp only at hK ⊢
          generalize hf33 : f 33 = v33 at *
          generalize hf32 : f 32 = v32 at *
          subst d8
          have hd7 : w1.ownsRow w.heap.size 3 1 v32 (ws.length + 1) (intV ws ++ [.int .i64 pa]) ∧ (v32.ownBlock = Value.ownBlock (.slice AW ws.length cW) ∨ ∃ g, v32.ownBlock = some g ∧ W5.heap.size ≤ g) := d7
          clear d7
          obtain ⟨A5, c5, rfl, _⟩ := own_shapeS hd7.1
          have hl10 : Bk w1 (w.heap.size + 1) 38 #[.int .i64 0, .bool false, .int .i64 (-1), (.slice AW ws.length cW)] := l9
          have y0 : w1.cell? ⟨(w.heap.size + 1), 3, none⟩ = some (.slice AW ws.length cW) := Bk.cell hl10 3
          have f0 := Bk.frozen hl10 3
          have HD7 := Lib.hid hd7
          have HL10 := Lib.hid hl10
          have HG := Lib.hid hG
          clear hd7 hl10 l9 hG
          go_simp
          refine hK.out undef _ (HG.out.set 3 (.slice A5 (ws.length + 1) c5)) ⟨_, HL10.out.put 3 (.slice A5 (ws.length + 1) c5), own_setB HD7.out.1 (own_block_ne HD7.out.1 HL10.out (by decide)), HD7.out.2⟩ (fun j hj _ h => fuF_set HL10.out 3 _ j hj _ _ h) (fun m hm h => fuH_set HL10.out 3 _ m hm h)
        · intro f w6 hG hF
          obtain ⟨V', g1, g2', g3'⟩ : (fuF w.heap.size (w.heap.size + 1) ws (.slice AW ws.length cW) g (i * 3) pa W5) 9 undef undef w6 := hF 9 (by decide)
          have HG6 := Lib.hid hG
          clear hF hG
          dsimp only
          generalize f 25 = v25
          generalize f 26 = v26
          generalize f 27 = v27
          generalize f 28 = v28
          generalize f 29 = v29
          generalize f 30 = v30
          generalize f 31 = v31
          generalize f 32 = v32
          generalize f 33 = v33
          have FR := HG6.out.kp.bk hS.out.res (HNS.out _ (Or.inr (Or.inr rfl)))
          have FP := HG6.out.kp.bk hS.out.pg.bk (HNS.out _ (Or.inr (Or.inl rfl)))
          have FO := HG6.out.kp.own hS.out.pg.row (fun kk hk1 => by
            have : g = kk := by simpa [Value.ownBlock] using hk1
            subst this
            exact HNS.out _ (Or.inl rfl))
          obtain ⟨A6, c6, rfl, _⟩ := own_shapeS g2'
          have HS6 := Lib.hid (show FlS B gp room (clT l i) (.slice (some ⟨g, 0, none⟩) nv cv) (.slice A6 (ws.length + 1) c6) (ws.length + 1) (ws ++ [pa]) w w6 from
            ⟨⟨FP, FO, hS.out.pg.ge, Nat.le_trans hS.out.pg.base HG6.out.kp.size⟩, ⟨HG6.out.kp.os.trans hS.out.kp.os, HG6.out.kp.tape.trans hS.out.kp.tape, HG6.out.kp.output.trans hS.out.kp.output, Nat.le_trans hS.out.kp.size HG6.out.kp.size, fun j hj hn => (HG6.out.kp.block j (Nat.lt_of_lt_of_le hj hS.out.kp.size) (fun e => by
              rcases e with e | e
              · omega
              · rcases hS.out.wrote.2 with ⟨h1, _⟩ | ⟨g', cap, cur, h1, h2, h3, _⟩
                · rw [h1] at e; cases e
                · rw [h1] at e
                  have : g' = j := by simpa [Value.ownBlock] using e
                  omega)).trans (hS.out.kp.block j hj hn), fun _ hh => Or.inl hh⟩, FR, g1, by rw [intV_snoc]; exact g2', hS.out.lt, hS.out.low⟩)
          have hrow6 : w6.ownsRow B 61 3 (.slice (some ⟨g, 0, none⟩) nv cv) nv (rowH (clT l i)) := by have := HS6.out.pg.row; rwa [HLN.out] at this
          have d2 : w6.cell? ⟨g, i * 3 + 2, none⟩ = some (.bool true) := by have := own_cellH hrow6 HCL.out 2 (by omega); rw [HAT.out] at this; exact this
          obtain ⟨cur, hb, _⟩ := own_cellsH hrow6
          have d3 := hb.frozen (i * 3 + 2)
          have hne : ¬ gp = g := fun e => own_tyneH hrow6 HS6.out.pg.bk e.symm
          have HS7 := Lib.hid (show FlS B gp room (clT l (i + 1)) (.slice (some ⟨g, 0, none⟩) nv cv) (.slice A6 (ws.length + 1) c6) (ws.length + 1) (ws ++ [pa]) w (w6.setCell ⟨g, i * 3 + 2, none⟩ (.bool false)) by
            have hlow := HS6.out.low g rfl
            refine ⟨⟨bk_set2 HS6.out.pg.bk hne, ?_, HS6.out.pg.ge, by simpa [World.setCell] using HS6.out.pg.base⟩, HS6.out.kp.setCell (p := ⟨g, i * 3 + 2, none⟩) (Or.inl (Or.inr rfl)) _, bk_set2 HS6.out.res (by omega), bk_set2 HS6.out.act (by omega), own_setB HS6.out.wrote (fun e => own_types_ne HS6.out.wrote HS6.out.pg.row (by decide) e rfl), HS6.out.lt, HS6.out.low⟩
            rw [CN.out, List.length_set, HLN.out]
            exact own_setH hrow6 HCL.out (by omega) (.bool false) (cleanH ⟨pa, pb, true⟩) (by rw [HAT.out]; rfl))
          clear FR FP FO g1 g2' g3' HG6 HS6 hrow6 hb HC5 G0 H0
          go_wp2_with fail
          rw [E1.out]
          refine ⟨⟨i + 1, ws.length + 1, .slice A6 (ws.length + 1) c6, by omega, rfl, ?_⟩, MM.out⟩
          rw [DN2.out]
          exact HS7
    · have hii : i = nv := by omega
      have HF := Lib.hid hS.out
      have e1 : clT l i = l.map cleanH := by unfold clT; rw [hii, HN.out, List.take_length, List.drop_length, List.append_nil]
      have e2 : dirtyN (l.take i) = dirtyN l := by rw [hii, HN.out, List.take_length]
      rw [e1, e2] at HF
      obtain ⟨ws, hws⟩ : ∃ ws, ws = dirtyN l := ⟨_, rfl⟩
      have HWS := Lib.hid (show ws.length ≤ 1000000 by
        rw [hws]
        have := dirty_le l l.length
        rw [List.take_length] at this
        exact Nat.le_trans this hl)
      have HRR := Lib.hid (show r = (l.map cleanH, ⟨0, false, -1, sortI ws⟩) by rw [HR.out, hws]; rfl)
      rw [← hws] at HF
      clear e1 e2 hii hws hS HR y1
      have hkw := own_lenI HF.out.wrote
      subst hkw
      have z3 := HF.out.act.cell 3
      have CS := Lib.hid (sort_any ws w.heap.size ws.length (.slice AW ws.length cW) HWS.out wr HF.out.kp.size HF.out.wrote)
      go_wp2_with fail
      refine CS.out.mono ?_
      rintro e w3 ⟨rfl, ho, hk⟩
      have nA : ¬ (Value.ownBlock (.slice AW ws.length cW) = some (w.heap.size + 1)) := own_block_ne HF.out.wrote HF.out.act (by decide)
      have nR : ¬ (Value.ownBlock (.slice AW ws.length cW) = some w.heap.size) := own_block_ne HF.out.wrote HF.out.res (by decide)
      have nP : ¬ (Value.ownBlock (.slice AW ws.length cW) = some gp) := own_block_ne HF.out.wrote HF.out.pg.bk (by decide)
      have FA := hk.bk HF.out.act nA
      have FR := hk.bk HF.out.res nR
      have FP := hk.bk HF.out.pg.bk nP
      have FO := hk.own HF.out.pg.row (fun b hb1 hb2 => own_types_ne HF.out.wrote HF.out.pg.row (by decide) hb2 hb1)
      have hlt2 := HF.out.lt
      have nV : Value.ownBlock (.slice Av nv cv) ≠ some w.heap.size := fun e => by have := HF.out.low _ e; omega
      have FIN := Lib.hid (show DoP B gp room (.slice Av nv cv) w (l.map cleanH, ⟨0, false, -1, sortI ws⟩) (.returned (.agg #[.int .i64 0, .bool false, .int .i64 (-1), .slice AW ws.length cW])) ((((w3.setCell ⟨w.heap.size, 0, none⟩ (.int .i64 0)).setCell ⟨w.heap.size, 1, none⟩ (.bool false)).setCell ⟨w.heap.size, 2, none⟩ (.int .i64 (-1))).setCell ⟨w.heap.size, 3, none⟩ (.slice AW ws.length cW)) by
        have KK : Kp (pS gp (.slice Av nv cv)) (pS gp (.slice Av nv cv)) w w3 := ⟨hk.os.trans HF.out.kp.os, hk.tape.trans HF.out.kp.tape, hk.output.trans HF.out.kp.output, Nat.le_trans HF.out.kp.size hk.size, fun j hj hn => (hk.block j (Nat.lt_of_lt_of_le hj HF.out.kp.size) (fun e => by
              rcases HF.out.wrote.2 with ⟨h1, _⟩ | ⟨g', cap, cur, h1, h2, h3, _⟩
              · rw [h1] at e; cases e
              · rw [h1] at e
                have : g' = j := by simpa [Value.ownBlock] using e
                omega)).trans (HF.out.kp.block j hj hn), fun _ hh => Or.inl hh⟩
        refine ⟨_, .slice Av nv cv, rfl, ?_, ⟨bk_set2 (bk_set2 (bk_set2 (bk_set2 FP (by omega)) (by omega)) (by omega)) (by omega), own_setB (own_setB (own_setB (own_setB FO nV) nV) nV) nV, HF.out.pg.ge, by simpa [World.setCell] using Nat.le_trans HF.out.pg.base hk.size⟩,
          (((KK.setCell (p := ⟨w.heap.size, 0, none⟩) (Or.inr (Nat.le_refl _)) _).setCell (p := ⟨w.heap.size, 1, none⟩) (Or.inr (Nat.le_refl _)) _).setCell (p := ⟨w.heap.size, 2, none⟩) (Or.inr (Nat.le_refl _)) _).setCell (p := ⟨w.heap.size, 3, none⟩) (Or.inr (Nat.le_refl _)) _⟩
        show World.ownsRow _ _ _ _ _ (sortI ws).length (intV (sortI ws))
        rw [sortI_length]
        exact own_setB (own_setB (own_setB (own_setB ho nR) nR) nR) nR)
      have q0 := FA.cell 0
      have q1 := FA.cell 1
      have q2 := FA.cell 2
      have q3 := FA.cell 3
      have r0 := FR.cell 0
      have r1 := FR.cell 1
      have r2 := FR.cell 2
      have r3 := FR.cell 3
      have k0 := FR.frozen 0
      have k1 := FR.frozen 1
      have k2 := FR.frozen 2
      have k3 := FR.frozen 3
      clear FA FR FP FO nA nR nP nV ho hk z3 CS HF
      go_wp2_with fail
      exact bodyPost_ret (v := .agg #[.int .i64 0, .bool false, .int .i64 (-1), .slice AW ws.length cW]) (by simp [results, Try.results19, go_sem, r0, r1, r2, r3]) rfl (by rw [HRR.out]; exact FIN.out)
end Go.Proofs.Ytfbpagbfdccgfaa
