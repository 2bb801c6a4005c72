/- What is taken out of a feed. Condition: the feed lies in memory. -/
import Derived.Test.YtbpclifgafafdaaDoorShT
import Derived.BigQuiet
import Derived.Deep.QuietTactic
namespace Go.Proofs.YtbpclifgafafdaaDoor
open Go.RowKit Go.Shelf

set_option maxRecDepth 100000 in
set_option maxHeartbeats 2000000 in
theorem take_nil (B q m : Nat) (hm : m ≤ 1000) (b : Bool) (w : World) (h : Fd B q (.slice none 0 0) 0 [] b w) :
    Calls Tryd.prog 7 #[.pointer (some ⟨q, 0, none⟩), .int .i64 (m : Int)] w fun e w' => e = .returned (.tuple #[.slice none 0 0, .bool !b]) ∧ Fd B q (.slice none 0 0) 0 [] b w' ∧ Below B w w' := by
  have c2 := fd2 h.bk
  have c3 := fd3 h.bk
  have f2 := h.bk.frozen 2
  have HF := Lib.hid (show Fd B q (.slice none 0 0) 0 [] b (w.setCell ⟨q, 2, none⟩ (.slice none 0 0)) from ⟨h.bk.put 2 (.slice none 0 0), ⟨rfl, Or.inl ⟨rfl, rfl⟩⟩, h.lo⟩)
  have HB := Lib.hid ((Below.refl B w).setCell (p := ⟨q, 2, none⟩) h.lo (.slice none 0 0))
  have d3 := fd3 HF.out.bk
  have m1 : max (m : Int) 0 = (m : Int) := by omega
  have m2 : min (m : Int) (0 : Int) = 0 := by omega
  clear h
  go_enter Tryd.func7, Tryd.ntmps7
  go_wp2_with (first | (go_at_call 14; refine (clone_nil _).mono ?_; rintro e w1 ⟨rfl, hww⟩; rw [← hww]; clear hww) | (go_at_call 15; refine (del_nil _).mono ?_; rintro e w1 ⟨rfl, hww⟩; rw [← hww]; clear hww))
  go_quiet (fail)
  go_wp2_with fail
  go_ret2
  exact ⟨rfl, HF.out.bel (below_drewN (Below.refl _ _) _), below_drewN HB.out _⟩
set_option maxRecDepth 100000 in
set_option maxHeartbeats 4000000 in
theorem take_some (B q g n cap m k : Nat) (xs : List Value) (hm : m ≤ 1000) (hn : n ≤ 100) (hk : k = min m n) (hx : ∀ u ∈ xs, u.oneCell' = true) (w : World) (h : Fd B q (.slice (some ⟨g, 0, none⟩) n cap) n xs false w) :
    Calls Tryd.prog 7 #[.pointer (some ⟨q, 0, none⟩), .int .i64 (m : Int)] w fun e w' => (∃ A c, e = .returned (.tuple #[.slice A k c, .bool true]) ∧ k ≤ c ∧ Seg w' A (xs.take (k * 3))) ∧ Bk w' q 50 (fdC (.slice (some ⟨g, 0, none⟩) (n - k) cap) false) ∧ Below B w w' := by
  have hkn : k ≤ n := by omega
  obtain ⟨cur, hcb, hnc, _, _, _, hBg⟩ := rowz_cells h.own
  have hgl : g < w.heap.size := hcb.lt
  have hgq : g ≠ q := fun e => rowz_tyne h.own h.bk (by decide) (by simp [Value.ownBlock, e])
  have c2 := fd2 h.bk
  have m1 : max (m : Int) 0 = (m : Int) := by omega
  have m2 : min (m : Int) (n : Int) = (k : Int) := by omega
  have hkI : (k : Int) ≤ (cap : Int) := by omega
  have hkc : k ≤ cap := by omega
  have HC := Lib.hid (clone_any B g n cap k xs w h.own hx hkn (by omega))
  have HX := Lib.hid hx
  have HGL := Lib.hid hgl
  have HGQ := Lib.hid hgq
  have HBG := Lib.hid hBg
  have HNC := Lib.hid hnc
  have HKN := Lib.hid hkn
  have HN := Lib.hid hn
  have H := Lib.hid h
  clear h hx hcb hnc hBg hgl hgq hk hn hkn
  go_enter Tryd.func7, Tryd.ntmps7
  go_wp2_with fail
  refine HC.out.mono ?_
  rintro e w1 ⟨v', rfl, ho, hb⟩
  have F1 := H.out.bel hb
  have d2 := fd2 F1.bk
  obtain ⟨A, c, rfl, hkc2, hseg, hfr⟩ := rowz_shape ho
  have HO := Lib.hid ho
  have HB1 := Lib.hid (hb.mono H.out.big)
  have HF1 := Lib.hid F1
  have HKC2 := Lib.hid hkc2
  have CD : Hid (Calls Tryd.prog 15 #[.slice (some ⟨g, 0, none⟩) n cap, .int .i64 0, .int .i64 (k : Int)] w1 fun e w' => e = .returned (.slice (some ⟨g, 0, none⟩) (n - k) cap) ∧ Kept1 g w1 w' ∧ Below B w1 w') := Lib.hid (by
    by_cases h0 : k = 0
    · subst h0
      exact (del_zero g n cap w1 HNC.out).mono fun e w' ⟨h1, h2⟩ => by subst h2; exact ⟨h1, Kept1.of_below (Below.refl _ _), Below.refl _ _⟩
    · exact del_any B g n cap k xs w1 HF1.out.own HX.out (by omega) HKN.out)
  clear F1 ho hb hseg hfr hkc2
  dsimp only
  go_wp2_with fail
  refine CD.out.mono ?_
  rintro e w2 ⟨rfl, hk1, hb2⟩
  have hbk := bk_kept HF1.out.bk (Ne.symm HGQ.out) hk1
  have e2 := fd2 hbk
  have f2 := hbk.frozen 2
  have HO2 := Lib.hid (rowz_kept HO.out hk1 (fun e => by have := (HO.out.lt g e).1; have := HGL.out; omega))
  have HBK := Lib.hid hbk
  have HB2 := Lib.hid (HB1.out.trans hb2)
  have HK1 := Lib.hid hk1
  clear hbk hk1 hb2 d2
  dsimp only
  go_wp2_with fail
  have HBK3 := Lib.hid (show Bk (w2.setCell ⟨q, 2, none⟩ (.slice (some ⟨g, 0, none⟩) (n - k) cap)) q 50 (fdC (.slice (some ⟨g, 0, none⟩) (n - k) cap) false) from HBK.out.put 2 _)
  have d3 := fd3 HBK3.out
  have HB3 := Lib.hid (HB2.out.setCell (p := ⟨q, 2, none⟩) H.out.lo (.slice (some ⟨g, 0, none⟩) (n - k) cap))
  have HO3 := Lib.hid (rowz_kept HO2.out (Kept1.set w2 q 2 (.slice (some ⟨g, 0, none⟩) (n - k) cap)) (rowz_tyne HO2.out HBK.out (by decide)))
  go_quiet (fail)
  go_wp2_with fail
  go_ret2
  obtain ⟨A', c', he, hkc', hseg, _⟩ := rowz_shape (own_belS HO3.out (below_drewN (Below.refl _ _) _))
  cases he
  exact ⟨⟨A, c, rfl, hkc', hseg⟩, HBK3.out.bel (below_drewN (Below.refl _ _) _), below_drewN HB3.out _⟩
end Go.Proofs.YtbpclifgafafdaaDoor
