/- Where a page is in the pager, and a page taken out. Condition: the pager lies in memory. -/
import Derived.Test.YtfbpagbfdccgfaaGDel
import Derived.Shelf.SlLaysH0
import Derived.Shelf.SlicesQ.IndexFunc
import Derived.BigQuiet
import Derived.Deep.QuietTactic
import Derived.Deep.CutBlock
import Derived.Deep.DeepCutAuto
namespace Go.Proofs.Ytfbpagbfdccgfaa
open Go.RowKit Go.Shelf Go.Lib

/-- The shelf's numbers and this program's. -/
def iRen : Ren where
  f := fun n => if n = 6 then 26 else n
  t := fun n => if n = 0 then 0 else if n = 3 then 3 else if n = 4 then 4 else if n = 22 then 54 else if n = 23 then 61 else if n = 25 then 67 else n
  g := fun n => n
theorem laysI : SlLaysH0.n6 Try.prog iRen := by
  constructor
  case f6 => exact ⟨Try.f26.name, by kernel_rfl, by kernel_rfl⟩
  all_goals first | kernel_rfl | (intro w; kernel_rfl)
def encH (h : HeldM) : Value := .agg (heldV h).toArray
theorem isPage_any (h : HeldM) (pb : Nat) (p : Int) (w : World) (hp : w.cell? ⟨pb, 0, none⟩ = some (.int .i64 p)) (hl : pb < w.heap.size) :
    Calls Try.prog 30 #[encH h, .pointer (some ⟨pb, 0, none⟩)] w fun e w' => e = .returned (.bool (h.page == p)) ∧ Below w.heap.size w w' := by
  obtain ⟨a, b, c⟩ := h
  have HA := Lib.hid ((Below.refl w.heap.size w).alloc (Nat.le_refl _) (.cells #[.int .i64 a, .int .i64 (b : Int), .bool c] 61))
  have hp2 : (w.alloc (.cells #[.int .i64 a, .int .i64 (b : Int), .bool c] 61)).cell? ⟨pb, 0, none⟩ = some (.int .i64 p) := by
    rw [← hp]
    exact World.cell?_of_block (w := w) (a := ⟨pb, 0, none⟩) (HA.out.block pb hl)
  have y0 := (Bk.new w 61 #[.int .i64 a, .int .i64 (b : Int), .bool c]).cell 0
  show Calls Try.prog 30 #[.agg #[.int .i64 a, .int .i64 (b : Int), .bool c], .pointer (some ⟨pb, 0, none⟩)] w fun e w' => e = .returned (.bool (a == p)) ∧ Below w.heap.size w w'
  go_enter Try.func30, Try.ntmps30
  go_wp2_with fail
  go_ret
  exact ⟨rfl, HA.out⟩
theorem isFree_any (h : HeldM) (w : World) :
    Calls Try.prog 27 #[encH h] w fun e w' => e = .returned (.bool (h.pins == 0)) ∧ Below w.heap.size w w' := by
  obtain ⟨a, b, c⟩ := h
  have HA := Lib.hid ((Below.refl w.heap.size w).alloc (Nat.le_refl _) (.cells #[.int .i64 a, .int .i64 (b : Int), .bool c] 61))
  have y0 := (Bk.new w 61 #[.int .i64 a, .int .i64 (b : Int), .bool c]).cell 1
  have e : ((b : Int) == 0) = (b == 0) := by rw [Bool.eq_iff_iff, beq_iff_eq, beq_iff_eq]; omega
  show Calls Try.prog 27 #[.agg #[.int .i64 a, .int .i64 (b : Int), .bool c]] w fun e w' => e = .returned (.bool (b == 0)) ∧ Below w.heap.size w w'
  rw [← e]
  clear e
  go_enter Try.func27, Try.ntmps27
  go_wp2_with fail
  go_ret
  exact ⟨rfl, HA.out⟩
set_option maxRecDepth 100000 in
theorem index_any (F : Nat) (lb : Array Value) (p : HeldM → Bool) (eg : ∀ args w, (callFunc F args).run Try.prog w = .ok (.enter F args) w) (B n : Nat) (v : Value) (l : List HeldM) (w : World) (hown : w.ownsRow B 61 3 v n (rowH l)) (hn : n ≤ 9223372036854775807) (hp : PredBelow Try.prog F lb encH p w) :
    Calls Try.prog 26 #[v, .func (.func F) #[] lb] w fun e w' => e = .returned (.int .i64 (findZ p l)) ∧ Below w.heap.size w w' := by
  rcases own_shapeH hown with ⟨rfl, rfl⟩ | ⟨g, cap, rfl, hB, hg, hc⟩
  · clear hown hp eg
    go_enter Try.func26, Try.ntmps26
    go_wp2
    go_loop [8] (fun i => i = .int .i64 0) (fun _ => 0)
    case atStart => rfl
    case round =>
      subst hrel
      go_wp2
      go_ret
      exact ⟨rfl, Below.refl _ _⟩
  · have hl := own_lenH hown
    have h := AnyQ.slices_IndexFunc laysI 3 (by intro w; kernel_rfl) (by intro w; kernel_rfl) heldV (fun _ => rfl) p F lb eg g 0 n cap l w hp (by omega) hn hg (fun j hj i u hu => by
      have hi : i < 3 := (List.getElem?_eq_some_iff.1 hu).1
      rw [Nat.zero_add, own_cellH hown hj i hi, ← hu, getElem!_pos l j hj])
    rw [List.take_of_length_le (by omega)] at h
    exact h
set_option maxRecDepth 100000 in
theorem find_any (B gp : Nat) (room : Int) (l : List HeldM) (v : Value) (w : World) (h : PgA B gp room l v w) (hl : l.length ≤ 9223372036854775807) (page : Int) :
    Calls Try.prog 24 #[.pointer (some ⟨gp, 0, none⟩), .int .i64 page] w fun e w' => e = .returned (.int .i64 (findZ (fun h => h.page == page) l)) ∧ Below w.heap.size w w' := by
  have al := (Below.refl w.heap.size w).alloc (Nat.le_refl _) (.cells #[.int .i64 page] 3)
  have HA := Lib.hid al
  have h1 := h.bel al
  have yb := (Bk.new w 3 #[.int .i64 page]).cell 0
  have y1 : (w.alloc (.cells #[.int .i64 page] 3)).cell? ⟨gp, 1, none⟩ = some v := h1.bk.cell 1
  have CI := Lib.hid (index_any 30 #[.pointer (some ⟨w.heap.size, 0, none⟩)] (fun h => h.page == page) (enters_of Try.func30 (by kernel_rfl) rfl) B l.length v l _ h1.row hl (fun W x hb => by
    have hc : W.cell? ⟨w.heap.size, 0, none⟩ = some (.int .i64 page) := by
      rw [World.cell?_of_block (hb.block w.heap.size (by simp))]
      exact yb
    have hlt : w.heap.size < W.heap.size := Nat.lt_of_lt_of_le (by simp) hb.size
    exact (isPage_any x w.heap.size page W hc hlt).mono (fun e w' h => ⟨h.1, hb.trans (h.2.mono hb.size)⟩)))
  rcases own_shapeH h.row with ⟨rfl, rfl⟩ | ⟨g, cap, rfl, _⟩
  all_goals
    clear h h1 al yb
    go_enter Try.func24, Try.ntmps24
    go_wp2_with fail
    refine CI.out.mono ?_
    rintro e w1 ⟨rfl, hb1⟩
    have HB := Lib.hid (HA.out.trans (hb1.mono HA.out.size))
    clear hb1
    go_wp2_with fail
    go_ret
    exact ⟨rfl, HB.out⟩
theorem pS_bel {gp : Nat} {v : Value} {w w' : World} (hb : Below w.heap.size w w') : Kp (pS gp v) (pS gp v) w w' := Kp.of_bel hb _
set_option maxRecDepth 100000 in
set_option maxHeartbeats 1000000 in
theorem remove_any (B gp : Nat) (room : Int) (l : List HeldM) (v : Value) (w : World) (h : PgA B gp room l v w) (i : Nat) (hi : i < l.length) (hl : l.length ≤ 1000000) :
    Calls Try.prog 25 #[.pointer (some ⟨gp, 0, none⟩), .int .i64 (i : Nat)] w fun e w' => e = .returned (.agg #[.int .i64 l[i].page, .int .i64 (l[i].pins : Int), .bool l[i].turned]) ∧ ∃ v', PgA B gp room (l.eraseIdx i) v' w' ∧ Kp (pS gp v) (pS gp v') w w' ∧ v'.ownBlock = v.ownBlock := by
  obtain ⟨W1, hW1⟩ : ∃ W1, W1 = w.alloc (.cells #[.int .i64 0, .int .i64 0, .bool false] 61) := ⟨_, rfl⟩
  obtain ⟨W2, hW2⟩ : ∃ W2, W2 = W1.alloc (.cells #[.int .i64 l[i].page, .int .i64 (l[i].pins : Int), .bool l[i].turned] 61) := ⟨_, rfl⟩
  have a1 : Below w.heap.size w W1 := by rw [hW1]; exact (Below.refl _ _).alloc (Nat.le_refl _) _
  have hs1 : W1.heap.size = w.heap.size + 1 := by rw [hW1]; simp
  have a2 : Below w.heap.size w W2 := by rw [hW2]; exact a1.alloc (by omega) _
  have hs2 : W2.heap.size = w.heap.size + 2 := by rw [hW2]; simp [hs1]
  have h1 := h.bel a1
  have h2 := h.bel a2
  have R2 : Bk W2 w.heap.size 61 #[.int .i64 0, .int .i64 0, .bool false] := by rw [hW2, hW1]; exact (Bk.new w _ _).alloc _
  have X2 : Bk W2 (w.heap.size + 1) 61 #[.int .i64 l[i].page, .int .i64 (l[i].pins : Int), .bool l[i].turned] := by rw [hW2, ← hs1]; exact Bk.new W1 _ _
  rcases own_shapeH h.row with ⟨rfl, hl0⟩ | ⟨g, cap, rfl, hBg, hg, hc⟩
  · subst hl0; simp at hi
  · have y1 : W1.cell? ⟨gp, 1, none⟩ = some (.slice (some ⟨g, 0, none⟩) l.length cap) := h1.bk.cell 1
    have z1 : W2.cell? ⟨gp, 1, none⟩ = some (.slice (some ⟨g, 0, none⟩) l.length cap) := h2.bk.cell 1
    have c0 : W1.cell? ⟨g, i * 3, none⟩ = some (.int .i64 l[i].page) := by have := own_cellH h1.row hi 0 (by omega); rw [Nat.add_zero] at this; exact this
    have c1 : W1.cell? ⟨g, i * 3 + 1, none⟩ = some (.int .i64 (l[i].pins : Int)) := own_cellH h1.row hi 1 (by omega)
    have c2 : W1.cell? ⟨g, i * 3 + 2, none⟩ = some (.bool l[i].turned) := own_cellH h1.row hi 2 (by omega)
    have D := Lib.hid (delH_any B g l.length cap i l W2 h2.row hi ((i : Int) + 1) rfl)
    have HH := Lib.hid h2
    have HR := Lib.hid R2
    have HX := Lib.hid X2
    have HA := Lib.hid a2
    have HGP := Lib.hid (show gp < w.heap.size from h.bk.lt)
    have HGE := Lib.hid h.ge
    have HW1 := Lib.hid hW1
    have HW2 := Lib.hid hW2
    have HLE := Lib.hid (show (l.eraseIdx i).length = l.length - 1 by rw [List.length_eraseIdx, if_pos hi])
    have HNE := Lib.hid (own_tyneH h.row h.bk)
    have HBS := Lib.hid h.base
    have i1 : (0 : Int) ≤ (i : Int) := by omega
    have i2 : (i : Int) < (l.length : Int) := by omega
    obtain ⟨s, hs⟩ : ∃ s, s = l[i] := ⟨_, rfl⟩
    rw [← hs] at c0 c1 c2 HX HW2 ⊢
    obtain ⟨pa, pb, pc⟩ := s
    dsimp only at c0 c1 c2 HX HW2 ⊢
    clear hs h h1 h2 R2 X2 a1 a2 hW1 hW2
    obtain ⟨n, hn⟩ : ∃ n, n = l.length := ⟨_, rfl⟩
    rw [← hn] at y1 z1 D hi hl i2 hc HH
    have HN := Lib.hid hn
    clear hn
    go_enter Try.func25, Try.ntmps25
    go_upto_region 1 with fail
    rw [← HW1.out]
    go_upto_region 2 with fail
    rw [← HW2.out]
    go_wp2_with fail
    refine D.out.mono ?_
    rintro e w3 ⟨rfl, ho, hk⟩
    have K3 := hk (pS gp (.slice (some ⟨g, 0, none⟩) n cap)) (Or.inr rfl)
    have K4 := hk (fun i => i = g) rfl
    have hgg : g ≠ gp := HNE.out
    have b3 := K4.bk HH.out.bk (fun e => hgg e.symm)
    have r3 := K4.bk HR.out (by omega)
    have x3 := K4.bk HX.out (by omega)
    have q1 : w3.cell? ⟨gp, 1, none⟩ = some (.slice (some ⟨g, 0, none⟩) n cap) := b3.cell 1
    have q2 := b3.frozen 1
    have t0 := x3.cell 0
    have t1 := x3.cell 1
    have t2 := x3.cell 2
    have u0 := r3.cell 0
    have u1 := r3.cell 1
    have u2 := r3.cell 2
    have f0 := r3.frozen 0
    have f1 := r3.frozen 1
    have f2 := r3.frozen 2
    have n1 : ¬ gp = w.heap.size := by have := HGP.out; omega
    have n2 : ¬ gp = w.heap.size + 1 := by have := HGP.out; omega
    have n3 : ¬ w.heap.size = gp := by have := HGP.out; omega
    have n4 : ¬ w.heap.size + 1 = gp := by have := HGP.out; omega
    have FIN := Lib.hid (show PgA B gp room (l.eraseIdx i) (.slice (some ⟨g, 0, none⟩) (n - 1) cap) ((((w3.setCell ⟨gp, 1, none⟩ (.slice (some ⟨g, 0, none⟩) (n - 1) cap)).setCell ⟨w.heap.size, 0, none⟩ (.int .i64 pa)).setCell ⟨w.heap.size, 1, none⟩ (.int .i64 (pb : Int))).setCell ⟨w.heap.size, 2, none⟩ (.bool pc)) ∧ Kp (pS gp (.slice (some ⟨g, 0, none⟩) n cap)) (pS gp (.slice (some ⟨g, 0, none⟩) (n - 1) cap)) w ((((w3.setCell ⟨gp, 1, none⟩ (.slice (some ⟨g, 0, none⟩) (n - 1) cap)).setCell ⟨w.heap.size, 0, none⟩ (.int .i64 pa)).setCell ⟨w.heap.size, 1, none⟩ (.int .i64 (pb : Int))).setCell ⟨w.heap.size, 2, none⟩ (.bool pc)) by
      have hw : w.heap.size ≤ w3.heap.size := Nat.le_trans HA.out.size K4.size
      have kk : Kp (fun i => i = gp ∨ i = w.heap.size) (fun i => i = gp ∨ i = w.heap.size) w3 ((((w3.setCell ⟨gp, 1, none⟩ (.slice (some ⟨g, 0, none⟩) (n - 1) cap)).setCell ⟨w.heap.size, 0, none⟩ (.int .i64 pa)).setCell ⟨w.heap.size, 1, none⟩ (.int .i64 (pb : Int))).setCell ⟨w.heap.size, 2, none⟩ (.bool pc)) :=
        ((((Kp.refl _ w3).setCell (p := ⟨gp, 1, none⟩) (Or.inl (Or.inl rfl)) _).setCell (p := ⟨w.heap.size, 0, none⟩) (Or.inl (Or.inr rfl)) _).setCell (p := ⟨w.heap.size, 1, none⟩) (Or.inl (Or.inr rfl)) _).setCell (p := ⟨w.heap.size, 2, none⟩) (Or.inl (Or.inr rfl)) _
      refine ⟨⟨?_, ?_, HGE.out, Nat.le_trans (Nat.le_trans HBS.out hw) kk.size⟩, ?_⟩
      · have hb4 := b3.put 1 (.slice (some ⟨g, 0, none⟩) (n - 1) cap)
        exact bk_set2 (bk_set2 (bk_set2 hb4 n1) n1) n1
      · rw [HLE.out, ← HN.out]
        refine kk.own ho ?_
        intro k hk2 hk3
        have : g = k := by simpa [Value.ownBlock] using hk2
        subst this
        rcases hk3 with hk3 | hk3
        · exact hgg hk3
        · omega
      · have k1 : Kp (pS gp (.slice (some ⟨g, 0, none⟩) n cap)) (pS gp (.slice (some ⟨g, 0, none⟩) n cap)) w w3 := (Kp.of_bel HA.out _).trans K3
        have k2 := (((k1.setCell (p := ⟨gp, 1, none⟩) (Or.inl (Or.inl rfl)) (.slice (some ⟨g, 0, none⟩) (n - 1) cap)).setCell (p := ⟨w.heap.size, 0, none⟩) (Or.inr (Nat.le_refl _)) (.int .i64 pa)).setCell (p := ⟨w.heap.size, 1, none⟩) (Or.inr (Nat.le_refl _)) (.int .i64 (pb : Int))).setCell (p := ⟨w.heap.size, 2, none⟩) (Or.inr (Nat.le_refl _)) (.bool pc)
        exact k2.mono (fun _ h => h) (fun _ h => Or.inl h))
    clear ho hk K3 K4 b3 r3 x3
    go_wp2_with fail
    exact bodyPost_ret (v := .agg #[.int .i64 pa, .int .i64 (pb : Int), .bool pc]) (by simp [results, Try.results25, go_sem, u0, u1, u2, n1, n2, n3, n4]) rfl ⟨rfl, _, FIN.out.1, FIN.out.2, rfl⟩
end Go.Proofs.Ytfbpagbfdccgfaa
