/- The pager's Unpin and Dirty. Condition: the pager lies in memory and has few pages. -/
import Derived.Test.YtfbpagbfdccgfaaGPin3
namespace Go.Proofs.Ytfbpagbfdccgfaa
open Go.RowKit

/-- A page of the row turned. -/
def chgH (kind : Int) (h : HeldM) : HeldM := if kind = 2 then ⟨h.page, h.pins - 1, h.turned⟩ else ⟨h.page, h.pins, true⟩
def chgM (l : List HeldM) (kind page : Int) : List HeldM × ActM :=
  if findZ (isP page) l < 0 then (l, refM 6)
  else if (l.getD (findZ (isP page) l).toNat default).pins = 0 then (l, refM 4)
  else (l.set (findZ (isP page) l).toNat (chgH kind (l.getD (findZ (isP page) l).toNat default)), ⟨0, false, -1, []⟩)
theorem rowH_set {l : List HeldM} {i : Nat} (hi : i < l.length) (h : HeldM) : rowH (l.set i h) = rowH (l.take i) ++ heldV h ++ rowH (l.drop (i + 1)) := by
  rw [List.set_eq_take_append_cons_drop, if_pos hi, rowH_append, rowH_cons, List.append_assoc]
/-- A cell of a page written. -/
theorem own_setH {B n g cap i k : Nat} {l : List HeldM} {w : World} (h : w.ownsRow B 61 3 (.slice (some ⟨g, 0, none⟩) n cap) n (rowH l)) (hi : i < l.length) (hk : k < 3) (u : Value) (h2 : HeldM) (hu : (heldV l[i]).set k u = heldV h2) :
    (w.setCell ⟨g, i * 3 + k, none⟩ u).ownsRow B 61 3 (.slice (some ⟨g, 0, none⟩) n cap) n (rowH (l.set i h2)) := by
  obtain ⟨cur, hb, hn, hm, hs, ht, hB⟩ := own_cellsH h
  have hl := own_lenH h
  refine ⟨by rw [rowH_length, List.length_set, hl], Or.inr ⟨g, cap, cur.setIfInBounds (i * 3 + k) u, rfl, hB, hb.put (i * 3 + k) u, hn, hm, by simpa using hs, ?_⟩⟩
  rw [Array.toList_setIfInBounds, List.take_set, ht]
  have e : rowH l = rowH (l.take i) ++ heldV l[i] ++ rowH (l.drop (i + 1)) := by
    have := rowH_set hi l[i]
    rw [List.set_getElem_self] at this
    exact this
  have hlen : (rowH (l.take i)).length = i * 3 := by rw [rowH_length, List.length_take]; omega
  rw [rowH_set hi, e, List.append_assoc, List.set_append_right _ _ (by omega), hlen, List.set_append_left _ _ (by rw [heldV_length]; omega), show i * 3 + k - i * 3 = k by omega, hu, List.append_assoc]
/-- What the box of a call holds while it runs. -/
structure CgS (B gp : Nat) (room : Int) (l : List HeldM) (v0 v : Value) (kind page : Int) (w wr : World) : Prop where
  pg : PgA B gp room l v wr
  kp : Kp (pS gp v0) (pS gp v) w wr
  op : Bk wr w.heap.size 31 #[.int .i64 kind, .int .i64 page]
  res : Bk wr (w.heap.size + 1) 38 #[.int .i64 0, .bool false, .int .i64 0, .slice none 0 0]
  lt : gp < w.heap.size
  low : ∀ k, v.ownBlock = some k → k < w.heap.size
theorem CgS.bel {B gp : Nat} {room : Int} {l : List HeldM} {v0 v : Value} {kind page : Int} {w wr w' : World} (s : CgS B gp room l v0 v kind page w wr) (hb : Below wr.heap.size wr w') : CgS B gp room l v0 v kind page w w' :=
  ⟨s.pg.bel hb, s.kp.trans (Kp.of_bel hb _), s.op.bel hb, s.res.bel hb, s.lt, s.low⟩
/-- The answer's box written whole, and the call's end. -/
theorem CgS.fin {B gp : Nat} {room : Int} {l : List HeldM} {v0 v : Value} {kind page : Int} {w wr : World} (s : CgS B gp room l v0 v kind page w wr) (x : Int) : DoP B gp room v0 w (l, refM x) (.returned (.agg #[.int .i64 x, .bool false, .int .i64 (-1), .slice none 0 0])) ((((wr.setCell ⟨w.heap.size + 1, 0, none⟩ (.int .i64 x)).setCell ⟨w.heap.size + 1, 1, none⟩ (.bool false)).setCell ⟨w.heap.size + 1, 2, none⟩ (.int .i64 (-1))).setCell ⟨w.heap.size + 1, 3, none⟩ (.slice none 0 0)) := by
  have hlt := s.lt
  have nV : v.ownBlock ≠ some (w.heap.size + 1) := fun e => by have := s.low _ e; omega
  have g : w.heap.size ≤ w.heap.size + 1 := Nat.le_succ _
  exact ⟨_, v, rfl, World.ownsRow_nil _ _ _ _, ⟨bk_set2 (bk_set2 (bk_set2 (bk_set2 s.pg.bk (by omega)) (by omega)) (by omega)) (by omega), own_setB (own_setB (own_setB (own_setB s.pg.row nV) nV) nV) nV, s.pg.ge, by simpa [World.setCell] using s.pg.base⟩,
    (((s.kp.setCell (p := ⟨w.heap.size + 1, 0, none⟩) (Or.inr g) _).setCell (p := ⟨w.heap.size + 1, 1, none⟩) (Or.inr g) _).setCell (p := ⟨w.heap.size + 1, 2, none⟩) (Or.inr g) _).setCell (p := ⟨w.heap.size + 1, 3, none⟩) (Or.inr g) _⟩
set_option maxRecDepth 100000 in
set_option maxHeartbeats 4000000 in
theorem chg_any (B gp : Nat) (room : Int) (l : List HeldM) (v : Value) (w : World) (h : PgA B gp room l v w) (hl : l.length ≤ 1000000) (kind page : Int) (hpn : ∀ s ∈ l, s.pins ≤ 4611686018427387904) :
    Calls Try.prog 22 #[.pointer (some ⟨gp, 0, none⟩), .agg #[.int .i64 kind, .int .i64 page]] w (DoP B gp room v w (chgM l kind page)) := by
  obtain ⟨W2, hW2⟩ : ∃ W2, W2 = (w.alloc (.cells #[.int .i64 kind, .int .i64 page] 31)).alloc (.cells #[.int .i64 0, .bool false, .int .i64 0, .slice none 0 0] 38) := ⟨_, rfl⟩
  have al : Below w.heap.size w W2 := by rw [hW2]; exact ((Below.refl _ _).alloc (Nat.le_refl _) _).alloc (by simp) _
  have HS2 := Lib.hid (show CgS B gp room l v v kind page w W2 by
    refine ⟨h.bel al, Kp.of_bel al _, ?_, ?_, h.bk.lt, fun k hk => ?_⟩
    · rw [hW2]; exact (Bk.new w _ _).alloc _
    · rw [hW2]
      have k1 := Bk.new (w.alloc (.cells #[.int .i64 kind, .int .i64 page] 31)) 38 #[.int .i64 0, .bool false, .int .i64 0, .slice none 0 0]
      rw [World.size_alloc] at k1
      exact k1
    · rcases own_shapeH h.row with ⟨h1, _⟩ | ⟨g, cap, h1, h2, h3, _⟩
      · rw [h1] at hk; cases hk
      · rw [h1] at hk
        have : g = k := by simpa [Value.ownBlock] using hk
        subst this
        exact h3)
  have HW2 := Lib.hid hW2
  have CF0 := find_any B gp room l v W2 HS2.out.pg (by omega) page
  have CF1 : Calls Try.prog 24 #[.pointer (some ⟨gp, 0, none⟩), .int .i64 page] W2 fun e w' => e = .returned (.int .i64 (findZ (isP page) l)) ∧ Below W2.heap.size W2 w' := CF0
  have y1 := HS2.out.op.cell 1
  obtain ⟨z, hz⟩ : ∃ z, z = findZ (isP page) l := ⟨_, rfl⟩
  obtain ⟨r, hr⟩ : ∃ r, r = chgM l kind page := ⟨_, rfl⟩
  rw [← hz] at CF1
  rw [← hr]
  have CF := Lib.hid CF1
  unfold chgM at hr
  rw [← hz] at hr
  clear h al hW2 CF0 CF1
  rcases findZ_cases (isP page) l with ⟨h1, h2⟩ | ⟨i, hi, h1, h2, h3⟩
  · rw [h1] at hz
    subst hz
    rw [if_pos (by decide)] at hr
    subst hr
    clear h1 h2
    go_enter Try.func22, Try.ntmps22
    go_upto_region 1 with fail
    rw [← HW2.out]
    go_wp2_with fail
    refine CF.out.mono ?_
    rintro e w3 ⟨rfl, b3⟩
    have HS3 := Lib.hid (HS2.out.bel b3)
    clear b3 HS2 y1 CF
    go_wp2_with fail
    refine (refused_any 6 w3).mono ?_
    rintro e w4 ⟨rfl, b4⟩
    have HS4 := Lib.hid (HS3.out.bel b4)
    clear b4 HS3
    have FIN := Lib.hid (HS4.out.fin 6)
    have r0 := HS4.out.res.cell 0
    have r1 := HS4.out.res.cell 1
    have r2 := HS4.out.res.cell 2
    have r3 := HS4.out.res.cell 3
    have k0 := HS4.out.res.frozen 0
    have k1 := HS4.out.res.frozen 1
    have k2 := HS4.out.res.frozen 2
    have k3 := HS4.out.res.frozen 3
    go_wp2_with fail
    exact bodyPost_ret (v := .agg #[.int .i64 6, .bool false, .int .i64 (-1), .slice none 0 0]) (by simp [results, Try.results22, go_sem, r0, r1, r2, r3]) rfl FIN.out
  · rw [h1] at hz
    subst hz
    rw [if_neg (by omega), Int.toNat_natCast, show l.getD i default = l[i] by simp [hi]] at hr
    have i1 : ¬ (i : Int) < 0 := by omega
    have i2 : decide ((i : Int) < 0) = false := decide_eq_false i1
    have i3 : (0 : Int) ≤ (i : Int) := by omega
    have i4 : (i : Int) < (l.length : Int) := by omega
    obtain ⟨s, hs⟩ : ∃ s, s = l[i] := ⟨_, rfl⟩
    have hps := hpn l[i] (List.getElem_mem hi)
    rw [← hs] at hr hps
    obtain ⟨pa, pb, pc⟩ := s
    dsimp only at hr hps
    have HSI := Lib.hid hs
    clear h1 h2 h3 hs hpn
    have HI := Lib.hid hi
    have HR := Lib.hid hr
    clear hr
    go_enter Try.func22, Try.ntmps22
    go_upto_region 1 with fail
    rw [← HW2.out]
    go_wp2_with fail
    refine CF.out.mono ?_
    rintro e w3 ⟨rfl, b3⟩
    have HS3 := Lib.hid (HS2.out.bel b3)
    clear b3 HS2 y1 CF
    rcases own_shapeH HS3.out.pg.row with ⟨_, h2⟩ | ⟨g, cap, h1, _⟩
    · have h3 := congrArg List.length h2
      have := HI.out
      simp only [List.length_nil] at h3
      omega
    subst h1
    have y1 := HS3.out.pg.bk.cell 1
    have c1 : w3.cell? ⟨g, i * 3 + 1, none⟩ = some (.int .i64 (pb : Int)) := by have := own_cellH HS3.out.pg.row HI.out 1 (by omega); rw [← HSI.out] at this; exact this
    obtain ⟨cur, hb, _⟩ := own_cellsH HS3.out.pg.row
    have c2 : w3.cell? ⟨g, i * 3 + 2, none⟩ = some (.bool pc) := by have := own_cellH HS3.out.pg.row HI.out 2 (by omega); rw [← HSI.out] at this; exact this
    have f1 := hb.frozen (i * 3 + 1)
    have f2 := hb.frozen (i * 3 + 2)
    have q0 := HS3.out.op.cell 0
    clear hb
    by_cases hp0 : pb = 0
    · have HR4 := Lib.hid (show r = (l, refM 4) by rw [HR.out, if_pos hp0])
      have e1 : ((pb : Int) == 0) = true := by rw [beq_iff_eq]; omega
      clear HR hp0
      go_wp2_with fail
      refine (refused_any 4 w3).mono ?_
      rintro e w4 ⟨rfl, b4⟩
      have HS4 := Lib.hid (HS3.out.bel b4)
      clear b4 HS3 c1 c2 f1 f2 q0 y1
      have FIN := Lib.hid (HS4.out.fin 4)
      have r0 := HS4.out.res.cell 0
      have r1 := HS4.out.res.cell 1
      have r2 := HS4.out.res.cell 2
      have r3 := HS4.out.res.cell 3
      have k0 := HS4.out.res.frozen 0
      have k1 := HS4.out.res.frozen 1
      have k2 := HS4.out.res.frozen 2
      have k3 := HS4.out.res.frozen 3
      go_wp2_with fail
      exact bodyPost_ret (v := .agg #[.int .i64 4, .bool false, .int .i64 (-1), .slice none 0 0]) (by simp [results, Try.results22, go_sem, r0, r1, r2, r3]) rfl (by rw [HR4.out]; exact FIN.out)
    · have e1 : ((pb : Int) == 0) = false := by rw [beq_eq_false_iff_ne]; omega
      have e2 : IntKind.i64.wrap ((pb : Int) - 1) = (pb : Int) - 1 := by rw [IntKind.wrap_i64]; omega
      have e3 : wrap64 ((pb : Int) - 1) = (pb : Int) - 1 := by unfold wrap64; omega
      have hbk := HS3.out.op
      have hrs := HS3.out.res
      have hlt := HS3.out.lt
      have hlow := HS3.out.low g rfl
      have ngp := HS3.out.pg.row
      have hne : ¬ gp = g := fun e => own_tyneH ngp HS3.out.pg.bk e.symm
      clear ngp
      have NEXT : ∀ (k : Nat) (u : Value) (h2 : HeldM), k < 3 → (heldV ⟨pa, pb, pc⟩).set k u = heldV h2 → CgS B gp room (l.set i h2) (.slice (some ⟨g, 0, none⟩) l.length cap) (.slice (some ⟨g, 0, none⟩) l.length cap) kind page w (w3.setCell ⟨g, i * 3 + k, none⟩ u) := fun k u h2 hk hu => by
        refine ⟨⟨bk_set2 HS3.out.pg.bk hne, ?_, HS3.out.pg.ge, by simpa [World.setCell] using HS3.out.pg.base⟩, HS3.out.kp.setCell (p := ⟨g, i * 3 + k, none⟩) (Or.inl (Or.inr rfl)) _, bk_set2 hbk (by omega), bk_set2 hrs (by omega), hlt, HS3.out.low⟩
        rw [List.length_set]
        exact own_setH HS3.out.pg.row HI.out hk u h2 (by rw [← HSI.out]; exact hu)
      have HNX := Lib.hid NEXT
      have HRN := Lib.hid (show r = (l.set i (chgH kind ⟨pa, pb, pc⟩), refM 0) by rw [HR.out, if_neg hp0]; rfl)
      clear NEXT HR hbk hrs hp0
      by_cases hk2 : kind = 2
      · subst hk2
        have HS4 := Lib.hid (show CgS B gp room (l.set i (chgH 2 ⟨pa, pb, pc⟩)) (.slice (some ⟨g, 0, none⟩) l.length cap) (.slice (some ⟨g, 0, none⟩) l.length cap) 2 page w (w3.setCell ⟨g, i * 3 + 1, none⟩ (.int .i64 ((pb : Int) - 1))) from HNX.out 1 _ _ (by omega) (by
          unfold chgH heldV
          rw [if_pos rfl]
          have : ((pb - 1 : Nat) : Int) = (pb : Int) - 1 := by
            have : 0 < pb := by rw [beq_eq_false_iff_ne] at e1; omega
            omega
          simp [this]))
        obtain ⟨w4, hw4⟩ : ∃ w4, w4 = w3.setCell ⟨g, i * 3 + 1, none⟩ (.int .i64 ((pb : Int) - 1)) := ⟨_, rfl⟩
        rw [← hw4] at HS4
        have HW4 := Lib.hid hw4
        clear hw4 HNX
        go_upto_region 10 with fail
        rw [← HW4.out]
        clear c1 c2 f1 f2 q0 y1 HW4 HS3
        have FIN := Lib.hid (HS4.out.fin 0)
        have r0 := HS4.out.res.cell 0
        have r1 := HS4.out.res.cell 1
        have r2 := HS4.out.res.cell 2
        have r3 := HS4.out.res.cell 3
        have k0 := HS4.out.res.frozen 0
        have k1 := HS4.out.res.frozen 1
        have k2 := HS4.out.res.frozen 2
        have k3 := HS4.out.res.frozen 3
        go_wp2_with fail
        exact bodyPost_ret (v := .agg #[.int .i64 0, .bool false, .int .i64 (-1), .slice none 0 0]) (by simp [results, Try.results22, go_sem, r0, r1, r2, r3]) rfl (by rw [HRN.out]; exact FIN.out)
      · have e4 : (kind == 2) = false := by rw [beq_eq_false_iff_ne]; exact hk2
        have HS4 := Lib.hid (show CgS B gp room (l.set i (chgH kind ⟨pa, pb, pc⟩)) (.slice (some ⟨g, 0, none⟩) l.length cap) (.slice (some ⟨g, 0, none⟩) l.length cap) kind page w (w3.setCell ⟨g, i * 3 + 2, none⟩ (.bool true)) from HNX.out 2 _ _ (by omega) (by
          unfold chgH heldV
          rw [if_neg hk2]
          rfl))
        obtain ⟨w4, hw4⟩ : ∃ w4, w4 = w3.setCell ⟨g, i * 3 + 2, none⟩ (.bool true) := ⟨_, rfl⟩
        rw [← hw4] at HS4
        have HW4 := Lib.hid hw4
        clear hw4 HNX
        go_upto_region 10 with fail
        rw [← HW4.out]
        clear c1 c2 f1 f2 q0 y1 HW4 HS3
        have FIN := Lib.hid (HS4.out.fin 0)
        have r0 := HS4.out.res.cell 0
        have r1 := HS4.out.res.cell 1
        have r2 := HS4.out.res.cell 2
        have r3 := HS4.out.res.cell 3
        have k0 := HS4.out.res.frozen 0
        have k1 := HS4.out.res.frozen 1
        have k2 := HS4.out.res.frozen 2
        have k3 := HS4.out.res.frozen 3
        go_wp2_with fail
        exact bodyPost_ret (v := .agg #[.int .i64 0, .bool false, .int .i64 (-1), .slice none 0 0]) (by simp [results, Try.results22, go_sem, r0, r1, r2, r3]) rfl (by rw [HRN.out]; exact FIN.out)
end Go.Proofs.Ytfbpagbfdccgfaa
