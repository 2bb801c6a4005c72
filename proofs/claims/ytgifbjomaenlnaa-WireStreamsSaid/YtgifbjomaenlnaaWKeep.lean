/- A stream in memory; keep and Rest. Condition: the bytes lie in memory, apart from the stream itself. -/
import Derived.Test.YtgifbjomaenlnaaWFirst
import Derived.Test.YtgifbjomaenlnaaWConcat
namespace Go.Proofs.Ytgifbjomaenlnaa
open Go.RowKit

/-- The stream at block g: what waits, what has ended it. -/
def StW (w : World) (g : Nat) (l : List Nat) (e : Nat) : Prop := ∃ A c, Bk w g 42 #[.slice A l.length c, .int .i64 (e : Int)] ∧ l.length ≤ c ∧ Seg w A (u8s l) ∧ ∀ a, A = some a → a.block ≠ g ∧ a.block < w.heap.size
theorem StW.lt {w : World} {g e : Nat} {l : List Nat} (h : StW w g l e) : g < w.heap.size := by
  obtain ⟨A, c, hb, _⟩ := h
  exact hb.lt
theorem StW.bel {w w' : World} {g e : Nat} {l : List Nat} (h : StW w g l e) (hb : Below w.heap.size w w') : StW w' g l e := by
  obtain ⟨A, c, h1, h2, h3, h4⟩ := h
  exact ⟨A, c, h1.bel hb, h2, h3.bel hb, fun a e => ⟨(h4 a e).1, Nat.lt_of_lt_of_le (h4 a e).2 hb.size⟩⟩
theorem StW.kept {w w' : World} {g g' e : Nat} {l : List Nat} (h : StW w g l e) (hg : g ≠ g') (k : Kept1 g' w w') (hs : ∀ A n c, Bk w g 42 #[.slice A n c, .int .i64 (e : Int)] → ∀ a, A = some a → a.block ≠ g') : StW w' g l e := by
  obtain ⟨A, c, h1, h2, h3, h4⟩ := h
  exact ⟨A, c, bk_kept h1 hg k, h2, h3.kept k (hs _ _ _ h1), fun a e => ⟨(h4 a e).1, Nat.lt_of_lt_of_le (h4 a e).2 k.size⟩⟩
theorem bk_one {w : World} {g : Nat} {t : TypeId} {a b x y : Value} (h : Bk w g t #[a, x]) (k : Bk w g t #[b, y]) : a = b := by
  unfold Bk at h k
  rw [h] at k
  injection k with k
  injection k with k
  injection k with k
  injection k
theorem rest_any (g : Nat) (l : List Nat) (e : Nat) (w : World) (h : StW w g l e) :
    Calls Try.prog 20 #[.pointer (some ⟨g, 0, none⟩)] w fun r w' => r = .returned (.int .i64 ((l.length : Nat) : Int)) ∧ w' = w := by
  obtain ⟨A, c, hb, _⟩ := h
  have y0 : w.cell? ⟨g, 0, none⟩ = some (.slice A l.length c) := hb.cell 0
  obtain ⟨n, hn⟩ : ∃ n, n = l.length := ⟨_, rfl⟩
  rw [← hn] at y0 ⊢
  clear hn hb
  go_enter Try.func20, Try.ntmps20
  go_wp2
  go_ret
  exact ⟨rfl, rfl⟩
set_option maxRecDepth 100000 in
set_option maxHeartbeats 2000000 in
theorem keep_any (g : Nat) (l0 : List Nat) (e0 : Nat) (A : Option Addr) (n c : Nat) (l : List Nat) (e : Nat) (hn : n = l.length) (_hnc : n ≤ c) (hz : n ≤ 1000000) (w : World) (h : StW w g l0 e0) (hA : Seg w A (u8s l)) (hAg : ∀ a, A = some a → a.block ≠ g) :
    Calls Try.prog 30 #[.pointer (some ⟨g, 0, none⟩), .slice A n c, .int .i64 (e : Int)] w fun r w' => r = .returned (.tuple #[]) ∧ StW w' g (if e = 0 then l else []) e ∧ KQ g w w' ∧ ∀ A' n' c' x, Bk w' g 42 #[.slice A' n' c', x] → ∀ a, A' = some a → w.heap.size ≤ a.block := by
  obtain ⟨i0, hi0, hz0, hz1, hz2⟩ := info_parts info5
  have hlt := h.lt
  obtain ⟨A0, c0, hb, _⟩ := h
  have y0 : w.cell? ⟨g, 0, none⟩ = some (.slice A0 l0.length c0) := hb.cell 0
  have y1 : w.cell? ⟨g, 1, none⟩ = some (.int .i64 (e0 : Int)) := hb.cell 1
  have f0 := hb.frozen 0
  have f1 := hb.frozen 1
  have k2 : Kept1 g w ((w.setCell ⟨g, 0, none⟩ (.slice none 0 0)).setCell ⟨g, 1, none⟩ (.int .i64 (e : Int))) := (Kept1.set _ _ _ _).trans (Kept1.set _ _ _ _)
  have HSW := Lib.hid (show ∀ w2, (w.setCell ⟨g, 0, none⟩ (.slice none 0 0)).setCell ⟨g, 1, none⟩ (.int .i64 (e : Int)) = w2 → Bk w2 g 42 #[.slice none 0 0, .int .i64 (e : Int)] ∧ KQ g w w2 ∧ Seg w2 A (u8s l) from fun w2 hw => by
    subst hw
    exact ⟨(hb.put 0 (.slice none 0 0)).put 1 (.int .i64 (e : Int)), (KQ.set g 0 w _).trans (KQ.set g 1 _ _), hA.kept k2 hAg⟩)
  have HN := Lib.hid hn
  have HLT := Lib.hid hlt
  have HAG := Lib.hid hAg
  generalize l0.length = n0 at *
  clear hb hn hA hlt k2 hAg
  by_cases he : e = 0
  · subst he
    go_enter Try.func30, Try.ntmps30
    go_upto_region 2 with fail
    generalize hw2 : (w.setCell ⟨g, 0, none⟩ (.slice none 0 0)).setCell ⟨g, 1, none⟩ (.int .i64 0) = w2
    obtain ⟨b2, k2, s2⟩ := HSW.out w2 (by rw [← hw2]; rfl)
    have z0 : w2.cell? ⟨g, 0, none⟩ = some (.slice none 0 0) := b2.cell 0
    have HB2 := Lib.hid b2
    have HK2 := Lib.hid k2
    have HS2 := Lib.hid s2
    clear hw2 HSW b2 k2 s2 y0 y1 f0 f1
    obtain ⟨v3, w3, hrun, hown, hb3⟩ := run_append_seg (P := Try.prog) w2 w2.heap.size 26 26 5 i0 (.int .u8 0) 1 Try.underlying26 hi0 hz0 hz1 hz2 rfl (.slice none 0 0) 0 [] (World.ownsRow_nil _ _ _ _) A n c (u8s l) (by rw [u8s_length, ← HN.out]) HS2.out (u8s_one _) (by simp only [maxLen]; omega) (by omega) (Nat.le_refl _)
    rw [Nat.zero_add, List.nil_append] at hown
    obtain ⟨A3, c3, rfl, hc3, hs3⟩ := own_shape hown
    have hfr := own_fresh hown
    have hlt3 : ∀ a, A3 = some a → a.block < w3.heap.size := fun a e => own_lt_slice hown e
    have HB3 := Lib.hid (HB2.out.bel hb3)
    have HK3 := Lib.hid (HK2.out.trans (KQ.of_below (Nat.lt_of_lt_of_le HLT.out HK2.out.kept.size) hb3))
    have HRUN := Lib.hid hrun
    have x0 : w3.cell? ⟨g, 0, none⟩ = some (.slice none 0 0) := HB3.out.cell 0
    have xf := HB3.out.frozen 0
    have hg3 : ∀ a, A3 = some a → a.block ≠ g := fun a e => by have := hfr a e; have := HB2.out.lt; omega
    have hg4 : ∀ a, A3 = some a → w.heap.size ≤ a.block := fun a e => Nat.le_trans HK2.out.kept.size (hfr a e)
    have HFIN := Lib.hid (show ∀ wf, w3.setCell ⟨g, 0, none⟩ (.slice A3 n c3) = wf → StW wf g l 0 ∧ KQ g w wf ∧ ∀ A' n' c' x, Bk wf g 42 #[.slice A' n' c', x] → ∀ a, A' = some a → w.heap.size ≤ a.block from fun wf hw => by
      subst hw
      have hbf : Bk (w3.setCell ⟨g, 0, none⟩ (.slice A3 n c3)) g 42 #[.slice A3 n c3, .int .i64 ((0 : Nat) : Int)] := HB3.out.put 0 (.slice A3 n c3)
      refine ⟨⟨A3, c3, by rw [← HN.out]; exact hbf, by rw [← HN.out]; exact hc3, hs3.kept (Kept1.set w3 g 0 _) hg3, fun a e => ⟨hg3 a e, by have := hlt3 a e; simp; exact this⟩⟩, HK3.out.trans (KQ.set g 0 _ _), fun A' n' c' x hb' a e => ?_⟩
      have h1 := bk_one hb' hbf
      injection h1 with h1 _ _
      exact hg4 a (h1 ▸ e))
    clear hrun hown hfr hb3 hs3 hc3 hlt3 hg3 hg4
    go_wp2_with (at_builtin; refine Lib.wpList_append_run _ rfl (.tmp 19) (.tmp 20) _ _ rfl _ _ rfl rfl _ _ HRUN.out ?_)
    go_end0
    exact ⟨rfl, HFIN.out _ rfl⟩
  · have i1 : ((e : Int) == 0) = false := by rw [beq_eq_false_iff_ne]; omega
    go_enter Try.func30, Try.ntmps30
    go_wp2_with fail
    go_end0
    obtain ⟨b2, k2, _⟩ := HSW.out _ rfl
    exact ⟨rfl, ⟨none, 0, b2, Nat.le_refl _, Seg.nil _ _, fun a e => by cases e⟩, k2, fun A' n' c' x hb' a e => by
      have h1 := bk_one hb' b2
      injection h1 with h1 _ _
      rw [h1] at e
      cases e⟩
end Go.Proofs.Ytgifbjomaenlnaa
