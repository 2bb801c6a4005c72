/- The pager's Do. Condition: the pager lies in memory and has few pages, none of them pinned too often. -/
import Derived.Test.YtopkkolcimmedaaGB
import Derived.Test.YtopkkolcimmedaaGPin2
import Derived.Test.YtopkkolcimmedaaGPin4
import Derived.Deep.Onto
namespace Go.Proofs.Ytopkkolcimmedaa
open Go.RowKit

theorem pin_any (B gp : Nat) (room : Int) (l : List HeldM) (v : Value) (w : World) (h : PgA B gp room l v w) (hl : l.length ≤ 1000000) (page : Int) (hpn : ∀ s ∈ l, s.pins ≤ 4611686018427387904) :
    Calls Try.prog 25 #[.pointer (some ⟨gp, 0, none⟩), .int .i64 page] w (DoP B gp room v w (pinM room l page)) := by
  unfold pinM
  rcases findZ_cases (isP page) l with ⟨h1, h2⟩ | ⟨i, hi, h1, h2, h3⟩
  · rw [h1, if_neg (by decide)]
    by_cases hr : room ≤ (l.length : Int)
    · rw [if_pos hr]
      rcases findZ_cases isF l with ⟨k1, k2⟩ | ⟨i, hi, k1, k2, k3⟩
      · rw [k1, if_pos (by decide)]
        exact pin_full B gp room l v w h hl page h1 hr k1
      · rw [k1, if_neg (by omega), Int.toNat_natCast, show l.getD i default = l[i] by simp [hi]]
        exact pin_free B gp room l v w h hl page i hi h1 hr k1 _ _ _ rfl _ rfl
    · rw [if_neg hr]
      exact pin_room B gp room l v w h hl page h1 (by omega)
  · rw [h1, if_pos (by omega), Int.toNat_natCast, show l.getD i default = l[i] by simp [hi]]
    exact pin_hit B gp room l v w h hl page i hi h1 _ _ _ rfl (hpn _ (List.getElem_mem hi))
def doM (room : Int) (l : List HeldM) (kind page : Int) : List HeldM × ActM :=
  if kind = 4 then flushM l else if page < 0 then (l, refM 1) else if kind = 1 then pinM room l page else if kind = 2 ∨ kind = 3 then chgM l kind page else (l, refM 1)
theorem CgS.notS {B gp : Nat} {room : Int} {l : List HeldM} {v0 v : Value} {kind page : Int} {w wr : World} (s : CgS B gp room l v0 v kind page w wr) (k : Nat) (hk : w.heap.size ≤ k) : ¬ pS gp v k := fun e => by
  have := s.lt
  rcases e with e | e
  · omega
  · have := s.low _ e; omega
/-- The answer stored: what a call inside left is what the call leaves. -/
theorem CgS.up {B gp : Nat} {room : Int} {l : List HeldM} {v : Value} {kind page : Int} {w W2 w3 : World} (s : CgS B gp room l v v kind page w W2) {r : List HeldM × ActM} {A : Option Addr} {n c : Nat} (d : DoP B gp room v W2 r (.returned (.agg #[.int .i64 r.2.err, .bool r.2.hit, .int .i64 r.2.out, .slice A n c])) w3) :
    DoP B gp room v w r (.returned (.agg #[.int .i64 r.2.err, .bool r.2.hit, .int .i64 r.2.out, .slice A n c])) ((((w3.setCell ⟨w.heap.size + 1, 0, none⟩ (.int .i64 r.2.err)).setCell ⟨w.heap.size + 1, 1, none⟩ (.bool r.2.hit)).setCell ⟨w.heap.size + 1, 2, none⟩ (.int .i64 r.2.out)).setCell ⟨w.heap.size + 1, 3, none⟩ (.slice A n c)) := by
  obtain ⟨Wv, v', e, ho, hp, hk⟩ := d
  simp only [Ending.returned.injEq, Value.agg.injEq, Array.mk.injEq, List.cons.injEq, and_true, true_and] at e
  subst e
  have FR := hk.bk s.res (s.notS _ (Nat.le_succ _))
  have hlt := s.lt
  have hsz := s.res.lt
  have nW : Value.ownBlock (.slice A n c) ≠ some (w.heap.size + 1) := own_block_ne ho FR (by decide)
  have nV : v'.ownBlock ≠ some (w.heap.size + 1) := own_block_ne hp.row FR (by decide)
  have g : w.heap.size ≤ w.heap.size + 1 := Nat.le_succ _
  have KK := s.kp.trans hk
  exact ⟨_, v', rfl, World.ownsRow.mono (own_setB (own_setB (own_setB (own_setB ho nW) nW) nW) nW) s.kp.size, ⟨bk_set2 (bk_set2 (bk_set2 (bk_set2 hp.bk (by omega)) (by omega)) (by omega)) (by omega), own_setB (own_setB (own_setB (own_setB hp.row nV) nV) nV) nV, hp.ge, by simpa [World.setCell] using hp.base⟩,
    (((KK.setCell (p := ⟨w.heap.size + 1, 0, none⟩) (Or.inr g) _).setCell (p := ⟨w.heap.size + 1, 1, none⟩) (Or.inr g) _).setCell (p := ⟨w.heap.size + 1, 2, none⟩) (Or.inr g) _).setCell (p := ⟨w.heap.size + 1, 3, none⟩) (Or.inr g) _⟩
theorem refused_do (B gp : Nat) (room : Int) (l : List HeldM) (v : Value) (w : World) (h : PgA B gp room l v w) (x : Int) : Calls Try.prog 24 #[.int .i64 x] w (DoP B gp room v w (l, refM x)) :=
  (refused_any x w).mono (by
    rintro e w' ⟨rfl, hb⟩
    exact ⟨_, v, rfl, World.ownsRow_nil _ _ _ _, h.bel hb, Kp.of_bel hb _⟩)
set_option maxRecDepth 100000 in
set_option maxHeartbeats 4000000 in
theorem do_any (B gp : Nat) (room : Int) (l : List HeldM) (v : Value) (w : World) (h : PgA B gp room l v w) (hl : l.length ≤ 1000000) (kind page : Int) (hpn : ∀ s ∈ l, s.pins ≤ 4611686018427387904) :
    Calls Try.prog 10 #[.pointer (some ⟨gp, 0, none⟩), .agg #[.int .i64 kind, .int .i64 page]] w (DoP B gp room v w (doM room l kind page)) := by
  obtain ⟨W2, hW2⟩ : ∃ W2, W2 = (w.alloc (.cells #[.int .i64 kind, .int .i64 page] 43)).alloc (.cells #[.int .i64 0, .bool false, .int .i64 0, .slice none 0 0] 40) := ⟨_, rfl⟩
  have al : Below w.heap.size w W2 := by rw [hW2]; exact ((Below.refl _ _).alloc (Nat.le_refl _) _).alloc (by simp) _
  have HS2 := Lib.hid (show CgS B gp room l v v kind page w W2 by
    refine ⟨h.bel al, Kp.of_bel al _, ?_, ?_, h.bk.lt, fun k hk => ?_⟩
    · rw [hW2]; exact (Bk.new w _ _).alloc _
    · rw [hW2]
      have k1 := Bk.new (w.alloc (.cells #[.int .i64 kind, .int .i64 page] 43)) 40 #[.int .i64 0, .bool false, .int .i64 0, .slice none 0 0]
      rw [World.size_alloc] at k1
      exact k1
    · rcases own_shapeH h.row with ⟨h1, _⟩ | ⟨g, cap, h1, h2, h3, _⟩
      · rw [h1] at hk; cases hk
      · rw [h1] at hk
        have : g = k := by simpa [Value.ownBlock] using hk
        subst this
        exact h3)
  have HW2 := Lib.hid hW2
  have y0 := HS2.out.op.cell 0
  have y1 := HS2.out.op.cell 1
  have HPN := Lib.hid hpn
  obtain ⟨r, hr⟩ : ∃ r, r = doM room l kind page := ⟨_, rfl⟩
  rw [← hr]
  unfold doM at hr
  clear h al hW2 hpn
  by_cases h4 : kind = 4
  · subst h4
    rw [if_pos rfl] at hr
    have CD := Lib.hid (show Calls Try.prog 23 #[.pointer (some ⟨gp, 0, none⟩)] W2 (DoP B gp room v W2 r) by rw [hr]; exact flush_any B gp room l v W2 HS2.out.pg hl)
    clear hr
    go_enter Try.func10, Try.ntmps10
    go_upto_region 1 with fail
    rw [← HW2.out]
    go_wp2_with fail
    refine CD.out.mono ?_
    rintro e w3 ⟨Wv, v', rfl, ho, hp, hk⟩
    obtain ⟨AW, cW, rfl, _⟩ := own_shapeS ho
    have HD := Lib.hid (show DoP B gp room v W2 r (.returned (.agg #[.int .i64 r.2.err, .bool r.2.hit, .int .i64 r.2.out, .slice AW r.2.wrote.length cW])) w3 from ⟨_, v', rfl, ho, hp, hk⟩)
    have UP := Lib.hid (HS2.out.up HD.out)
    have FR := hk.bk HS2.out.res (HS2.out.notS _ (Nat.le_succ _))
    have r0 := FR.cell 0
    have r1 := FR.cell 1
    have r2 := FR.cell 2
    have r3 := FR.cell 3
    have k0 := FR.frozen 0
    have k1 := FR.frozen 1
    have k2 := FR.frozen 2
    have k3 := FR.frozen 3
    clear ho hp hk FR HD
    go_wp2_with fail
    exact bodyPost_ret (v := .agg #[.int .i64 r.2.err, .bool r.2.hit, .int .i64 r.2.out, .slice AW r.2.wrote.length cW]) (by simp [results, Try.results10, go_sem, r0, r1, r2, r3]) rfl UP.out
  · rw [if_neg h4] at hr
    have e4 : (kind == 4) = false := by rw [beq_eq_false_iff_ne]; exact h4
    by_cases hp : page < 0
    · rw [if_pos hp] at hr
      have ep : decide (page < 0) = true := decide_eq_true hp
      have CD := Lib.hid (show Calls Try.prog 24 #[.int .i64 1] W2 (DoP B gp room v W2 r) by rw [hr]; exact refused_do B gp room l v W2 HS2.out.pg 1)
      clear hr
      go_enter Try.func10, Try.ntmps10
      go_upto_region 1 with fail
      rw [← HW2.out]
      go_wp2_with fail
      refine CD.out.mono ?_
      rintro e w3 ⟨Wv, v', rfl, ho, hp, hk⟩
      obtain ⟨AW, cW, rfl, _⟩ := own_shapeS ho
      have HD := Lib.hid (show DoP B gp room v W2 r (.returned (.agg #[.int .i64 r.2.err, .bool r.2.hit, .int .i64 r.2.out, .slice AW r.2.wrote.length cW])) w3 from ⟨_, v', rfl, ho, hp, hk⟩)
      have UP := Lib.hid (HS2.out.up HD.out)
      have FR := hk.bk HS2.out.res (HS2.out.notS _ (Nat.le_succ _))
      have r0 := FR.cell 0
      have r1 := FR.cell 1
      have r2 := FR.cell 2
      have r3 := FR.cell 3
      have k0 := FR.frozen 0
      have k1 := FR.frozen 1
      have k2 := FR.frozen 2
      have k3 := FR.frozen 3
      clear ho hp hk FR HD
      go_wp2_with fail
      exact bodyPost_ret (v := .agg #[.int .i64 r.2.err, .bool r.2.hit, .int .i64 r.2.out, .slice AW r.2.wrote.length cW]) (by simp [results, Try.results10, go_sem, r0, r1, r2, r3]) rfl UP.out
    · rw [if_neg hp] at hr
      have ep : decide (page < 0) = false := decide_eq_false hp
      by_cases h1 : kind = 1
      · subst h1
        rw [if_pos rfl] at hr
        have CD := Lib.hid (show Calls Try.prog 25 #[.pointer (some ⟨gp, 0, none⟩), .int .i64 page] W2 (DoP B gp room v W2 r) by rw [hr]; exact pin_any B gp room l v W2 HS2.out.pg hl page HPN.out)
        clear hr
        go_enter Try.func10, Try.ntmps10
        go_upto_region 1 with fail
        rw [← HW2.out]
        go_wp2_with fail
        refine CD.out.mono ?_
        rintro e w3 ⟨Wv, v', rfl, ho, hp, hk⟩
        obtain ⟨AW, cW, rfl, _⟩ := own_shapeS ho
        have HD := Lib.hid (show DoP B gp room v W2 r (.returned (.agg #[.int .i64 r.2.err, .bool r.2.hit, .int .i64 r.2.out, .slice AW r.2.wrote.length cW])) w3 from ⟨_, v', rfl, ho, hp, hk⟩)
        have UP := Lib.hid (HS2.out.up HD.out)
        have FR := hk.bk HS2.out.res (HS2.out.notS _ (Nat.le_succ _))
        have r0 := FR.cell 0
        have r1 := FR.cell 1
        have r2 := FR.cell 2
        have r3 := FR.cell 3
        have k0 := FR.frozen 0
        have k1 := FR.frozen 1
        have k2 := FR.frozen 2
        have k3 := FR.frozen 3
        clear ho hp hk FR HD
        go_wp2_with fail
        exact bodyPost_ret (v := .agg #[.int .i64 r.2.err, .bool r.2.hit, .int .i64 r.2.out, .slice AW r.2.wrote.length cW]) (by simp [results, Try.results10, go_sem, r0, r1, r2, r3]) rfl UP.out
      · rw [if_neg h1] at hr
        have e1 : (kind == 1) = false := by rw [beq_eq_false_iff_ne]; exact h1
        by_cases h2 : kind = 2
        · subst h2
          rw [if_pos (Or.inl rfl)] at hr
          have CD := Lib.hid (show Calls Try.prog 26 #[.pointer (some ⟨gp, 0, none⟩), .agg #[.int .i64 2, .int .i64 page]] W2 (DoP B gp room v W2 r) by rw [hr]; exact chg_any B gp room l v W2 HS2.out.pg hl 2 page HPN.out)
          clear hr
          go_enter Try.func10, Try.ntmps10
          go_upto_region 1 with fail
          rw [← HW2.out]
          go_wp2_with fail
          refine CD.out.mono ?_
          rintro e w3 ⟨Wv, v', rfl, ho, hp, hk⟩
          obtain ⟨AW, cW, rfl, _⟩ := own_shapeS ho
          have HD := Lib.hid (show DoP B gp room v W2 r (.returned (.agg #[.int .i64 r.2.err, .bool r.2.hit, .int .i64 r.2.out, .slice AW r.2.wrote.length cW])) w3 from ⟨_, v', rfl, ho, hp, hk⟩)
          have UP := Lib.hid (HS2.out.up HD.out)
          have FR := hk.bk HS2.out.res (HS2.out.notS _ (Nat.le_succ _))
          have r0 := FR.cell 0
          have r1 := FR.cell 1
          have r2 := FR.cell 2
          have r3 := FR.cell 3
          have k0 := FR.frozen 0
          have k1 := FR.frozen 1
          have k2 := FR.frozen 2
          have k3 := FR.frozen 3
          clear ho hp hk FR HD
          go_wp2_with fail
          exact bodyPost_ret (v := .agg #[.int .i64 r.2.err, .bool r.2.hit, .int .i64 r.2.out, .slice AW r.2.wrote.length cW]) (by simp [results, Try.results10, go_sem, r0, r1, r2, r3]) rfl UP.out
        · have e2 : (kind == 2) = false := by rw [beq_eq_false_iff_ne]; exact h2
          by_cases h3 : kind = 3
          · subst h3
            rw [if_pos (Or.inr rfl)] at hr
            have CD := Lib.hid (show Calls Try.prog 26 #[.pointer (some ⟨gp, 0, none⟩), .agg #[.int .i64 3, .int .i64 page]] W2 (DoP B gp room v W2 r) by rw [hr]; exact chg_any B gp room l v W2 HS2.out.pg hl 3 page HPN.out)
            clear hr
            go_enter Try.func10, Try.ntmps10
            go_upto_region 1 with fail
            rw [← HW2.out]
            go_wp2_with fail
            refine CD.out.mono ?_
            rintro e w3 ⟨Wv, v', rfl, ho, hp, hk⟩
            obtain ⟨AW, cW, rfl, _⟩ := own_shapeS ho
            have HD := Lib.hid (show DoP B gp room v W2 r (.returned (.agg #[.int .i64 r.2.err, .bool r.2.hit, .int .i64 r.2.out, .slice AW r.2.wrote.length cW])) w3 from ⟨_, v', rfl, ho, hp, hk⟩)
            have UP := Lib.hid (HS2.out.up HD.out)
            have FR := hk.bk HS2.out.res (HS2.out.notS _ (Nat.le_succ _))
            have r0 := FR.cell 0
            have r1 := FR.cell 1
            have r2 := FR.cell 2
            have r3 := FR.cell 3
            have k0 := FR.frozen 0
            have k1 := FR.frozen 1
            have k2 := FR.frozen 2
            have k3 := FR.frozen 3
            clear ho hp hk FR HD
            go_wp2_with fail
            exact bodyPost_ret (v := .agg #[.int .i64 r.2.err, .bool r.2.hit, .int .i64 r.2.out, .slice AW r.2.wrote.length cW]) (by simp [results, Try.results10, go_sem, r0, r1, r2, r3]) rfl UP.out
          · rw [if_neg (by omega)] at hr
            have e3 : (kind == 3) = false := by rw [beq_eq_false_iff_ne]; exact h3
            have CD := Lib.hid (show Calls Try.prog 24 #[.int .i64 1] W2 (DoP B gp room v W2 r) by rw [hr]; exact refused_do B gp room l v W2 HS2.out.pg 1)
            clear hr
            go_enter Try.func10, Try.ntmps10
            go_upto_region 1 with fail
            rw [← HW2.out]
            go_wp2_with fail
            refine CD.out.mono ?_
            rintro e w3 ⟨Wv, v', rfl, ho, hp, hk⟩
            obtain ⟨AW, cW, rfl, _⟩ := own_shapeS ho
            have HD := Lib.hid (show DoP B gp room v W2 r (.returned (.agg #[.int .i64 r.2.err, .bool r.2.hit, .int .i64 r.2.out, .slice AW r.2.wrote.length cW])) w3 from ⟨_, v', rfl, ho, hp, hk⟩)
            have UP := Lib.hid (HS2.out.up HD.out)
            have FR := hk.bk HS2.out.res (HS2.out.notS _ (Nat.le_succ _))
            have r0 := FR.cell 0
            have r1 := FR.cell 1
            have r2 := FR.cell 2
            have r3 := FR.cell 3
            have k0 := FR.frozen 0
            have k1 := FR.frozen 1
            have k2 := FR.frozen 2
            have k3 := FR.frozen 3
            clear ho hp hk FR HD
            go_wp2_with fail
            exact bodyPost_ret (v := .agg #[.int .i64 r.2.err, .bool r.2.hit, .int .i64 r.2.out, .slice AW r.2.wrote.length cW]) (by simp [results, Try.results10, go_sem, r0, r1, r2, r3]) rfl UP.out
end Go.Proofs.Ytopkkolcimmedaa
