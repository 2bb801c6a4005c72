/- What a reader that fails leaves: the code as the last item, and the end. Condition: the reader and its items lie in memory. -/
import Derived.Test.YtnbhgjionpidnaaDoorSItems0
namespace Go.Proofs.YtnbhgjionpidnaaDoor
open Go.RowKit

theorem it_one (a b : Int) (t : ByteArray) : ∀ u ∈ [Value.int .i64 a, .string t, .int .i64 b], u.oneCell' = true := by
  intro u hu
  simp only [List.mem_cons, List.not_mem_nil, or_false] at hu
  rcases hu with rfl | rfl | rfl <;> rfl
theorem own_tyneS {w : World} {B g n size : Nat} {e t : TypeId} {v : Value} {xs : List Value} {cs : Array Value} (h : w.ownsRow B e size v n xs) (hb : Bk w g t cs) (hte : e ≠ t) : v.ownBlock ≠ some g := by
  intro hv
  rcases h.2 with ⟨rfl, _⟩ | ⟨g', cap, cur, rfl, _, hg, _⟩
  · cases hv
  · injection hv with hv
    subst hv
    unfold Bk at hb
    rw [hg] at hb
    injection hb with hb
    injection hb with _ h2
    exact hte h2
/-- A row that grows leaves all other blocks. -/
theorem grown_kept1 {w1 w2 : World} {row : Option Nat} {B : Nat} (k : w1.grownBy w2 row) (hrow : ∀ b, row = some b → B ≤ b) (hB : B ≤ w1.heap.size) : ∃ b, B ≤ b ∧ Kept1 b w1 w2 ∧ (b = w1.heap.size ∨ row = some b) := by
  cases row with
  | none => exact ⟨w1.heap.size, hB, ⟨k.size, fun b hb _ => k.block b hb (fun e => by cases e)⟩, Or.inl rfl⟩
  | some g => exact ⟨g, hrow g rfl, ⟨k.size, fun b hb hn => k.block b hb (fun e => hn (by injection e))⟩, Or.inr rfl⟩
theorem RdL.kept {B gr g : Nat} {mk : Bool} {kind : Nat} {text : ByteArray} {l : List Nat} {w w' : World} (h : RdL B gr mk kind text l w) (hg : gr ≠ g) (hB : B ≤ g) (k : Kept1 g w w') : RdL B gr mk kind text l w' := by
  obtain ⟨A, c, h1, h2, h3, h4⟩ := h
  exact ⟨A, c, bk_kept h1 hg k, h2, h3.kept k (fun a e => by have := h4 a e; omega), h4⟩
/-- An item more. -/
theorem ItG.push {gr g1 g2 g cap m : Nat} {w w1 w2 : World} {v : Value} {done : List ItM} (h : ItG gr g1 g2 w v done w1) (i : ItM) (hm : m = done.length) (hown : w2.ownsRow w.heap.size 56 3 (.slice (some ⟨g, 0, none⟩) (m + 1) cap) (m + 1) (itsL done ++ [.int .i64 (i.kind : Nat), .string i.text, .int .i64 (i.code : Nat)])) (k : w1.grownBy w2 v.ownBlock) :
    ItG gr g1 g2 w (.slice (some ⟨g, 0, none⟩) (m + 1) cap) (done ++ [i]) (w2.setCell ⟨g2, 0, none⟩ (.slice (some ⟨g, 0, none⟩) (m + 1) cap)) ∧ Bk w2 g2 42 #[v] ∧
    ∃ b, w.heap.size ≤ b ∧ Kept1 b w1 w2 := by
  subst hm
  have e1 := h.e1
  have e2 := h.e2
  have lt := h.lt
  have big := h.big
  obtain ⟨b, hb1, hb2, hb3⟩ := grown_kept1 k (fun b hb => (h.own.lt b hb).1) (by omega)
  have n1 : g1 ≠ b := by
    rcases hb3 with e | e
    · have := h.b1.lt; omega
    · intro e3; subst e3; exact own_tyneS h.own h.b1 (by decide) e
  have n2 : g2 ≠ b := by
    rcases hb3 with e | e
    · omega
    · intro e3; subst e3; exact own_tyneS h.own h.b2 (by decide) e
  have kq2 : KQ gr w w2 := by
    refine ⟨h.kq.bel.trans ((Below.refl gr w1).grown k (by omega) (fun b hb => by have := (h.own.lt b hb).1; omega)), ⟨Nat.le_trans h.kq.kept.size k.size, fun b' hb' hn => ?_⟩⟩
    rw [hb2.block b' (Nat.lt_of_lt_of_le hb' h.kq.kept.size) (by omega)]
    exact h.kq.kept.block b' hb' hn
  have B1 := bk_kept h.b1 n1 hb2
  have B2 := bk_kept h.b2 n2 hb2
  have kk := Kept1.set w2 g2 0 (.slice (some ⟨g, 0, none⟩) (done.length + 1) cap)
  refine ⟨⟨⟨kq2.bel.setCell (p := ⟨g2, 0, none⟩) (by show gr ≤ g2; omega) _, ⟨Nat.le_trans kq2.kept.size kk.size, fun b' hb' hn => ?_⟩⟩, bk_kept B1 (by omega) kk, B2.put 0 _, ?_, ?_, e1, e2, lt⟩, B2, b, hb1, hb2⟩
  · rw [kk.block b' (Nat.lt_of_lt_of_le hb' kq2.kept.size) (by omega)]
    exact kq2.kept.block b' hb' hn
  · rw [List.length_append, itsL_one]
    exact own_keptS hown (own_tyneS hown B2 (by decide)) kk
  · obtain ⟨w00, t1, t2, t3⟩ := h.tab
    exact ⟨w00, t1, (t2.grown k (by omega) (fun b hb => by have := (h.own.lt b hb).1; omega)).setCell (p := ⟨g2, 0, none⟩) (by show w00.heap.size ≤ g2; omega) _, t3⟩
set_option maxRecDepth 100000 in
set_option maxHeartbeats 2000000 in
theorem catch_wrong (g1 g2 gr c : Nat) (w w1 : World) (v : Value) (done : List ItM) (h : ItG gr g1 g2 w v done w1) (hd : done.length ≤ 20001) (x0 x1 x2 x3 x4 : Value) (hr : Bk w1 gr 59 #[x0, x1, x2, x3, x4]) (older : List PanicEntry) :
    CallsD Tryd.prog 41 #[.pointer (some ⟨g1, 0, none⟩), .pointer (some ⟨g2, 0, none⟩)] (.panicking ({ v := .iface 78 (.int .i64 (c : Int)), recovered := false } :: older)) w1 fun e u' w' =>
      e = .returned (.tuple #[]) ∧ u' = .panicking ({ v := .iface 78 (.int .i64 (c : Int)), recovered := true } :: older) ∧ ∃ v', ItG gr g1 g2 w v' (done ++ [⟨0, ⟨#[]⟩, c⟩]) w' ∧ Bk w' gr 59 endC := by
  have hta := run_assert_wrong
  have htn := run_assert_not
  obtain ⟨j0, hj0, hz0, hz1, hz2⟩ := info_parts info_item
  obtain ⟨w2, hw2⟩ : ∃ x, x = w1.alloc (.cells #[.int .i64 0, .string ⟨#[]⟩, .int .i64 (c : Int)] 56) := ⟨_, rfl⟩
  have al : Below w1.heap.size w1 w2 := by rw [hw2]; exact (Below.refl _ _).alloc (Nat.le_refl _) _
  have HN := Lib.hid (show ∀ j u, ([.int .i64 0, .string ⟨#[]⟩, .int .i64 (c : Int)] : List Value)[j]? = some u → w2.cell? ((⟨w1.heap.size, 0, none⟩ : Addr).add j) = some u by
    rw [hw2]
    exact World.news_of_block (cs := #[.int .i64 0, .string ⟨#[]⟩, .int .i64 (c : Int)]) (t := 56) (fr := (0, 0)) (Bk.new w1 _ _))
  have h2 := h.bel al
  have HI := Lib.hid h2
  have HR := Lib.hid (hr.bel al)
  have HD := Lib.hid hd
  have HBS := Lib.hid (show w.heap.size ≤ w2.heap.size from h2.kq.kept.size)
  have HW2 := Lib.hid hw2
  obtain ⟨q, hq⟩ : ∃ q, q = w1.heap.size := ⟨_, rfl⟩
  have HQ := Lib.hid hq
  rw [← hq] at HN
  have y2 : w1.cell? ⟨g2, 0, none⟩ = some v := h.b2.cell 0
  obtain ⟨m, hm⟩ : ∃ m, m = done.length := ⟨_, rfl⟩
  have HM := Lib.hid hm
  have HOW := Lib.hid (show w2.ownsRow w.heap.size 56 3 v m (itsL done) by rw [hm]; exact h2.own)
  have hm1 : m + 1 ≤ 30000 := by omega
  clear hw2 al h2 hr hd h hq hm
  refine callsD_of_wpS Tryd.func41 rfl fun c₀ cs hu => ?_
  apply wpS_seq
  apply wpS_region
  simp only [Tryd.ntmps41, List.size_toArray, List.length_cons, List.length_nil, Nat.reduceAdd, Nat.reduceSub, Array.replicate_succ,
     Array.replicate_zero, List.push_toArray, List.append_toArray, List.nil_append, List.cons_append]
  simp [wpOpsS, go_sem, recoverD, hu, Exit.thenS]
  refine wpS_of_wp ?_
  go_upto_region 10 with fail
  go_upto_region 11 with (at_builtin; rw [← HW2.out, ← HQ.out]; refine wpList_append_lies _ rfl _ _ _ rfl w.heap.size 56 j0 _ 3 32 Tryd.underlying42 hj0 hz0 hz1 hz2 rfl (by omega) _ m (itsL done) rfl HOW.out ⟨q, 0, none⟩ 1 1 [.int .i64 0, .string ⟨#[]⟩, .int .i64 (c : Int)] rfl rfl HN.out (it_one _ _ _) (by omega) (by unfold maxLen; omega) (by omega) HBS.out _ rfl ?_; intro g cap w3 hown hgrow hat hlt3; have hp := HI.out.push ⟨0, ⟨#[]⟩, c⟩ HM.out hown hgrow; have y3 := hp.2.1.cell 0; have z3 := hp.2.1.frozen 0; have HP := Lib.hid hp; clear hp hown hgrow hat hlt3 y2)
  obtain ⟨w4, hw4⟩ : ∃ x, x = w3.setCell ⟨g2, 0, none⟩ (.slice (some ⟨g, 0, none⟩) (m + 1) cap) := ⟨_, rfl⟩
  rw [← hw4]
  obtain ⟨hg4, hb2, b, hb, hkb⟩ := HP.out
  rw [← hw4] at hg4
  have r3 : Bk w3 gr 59 #[x0, x1, x2, x3, x4] := bk_kept HR.out (by have := HI.out.lt; omega) hkb
  have r4 : Bk w4 gr 59 #[x0, x1, x2, x3, x4] := by
    rw [hw4]
    exact r3.far (p := ⟨g2, 0, none⟩) (by show gr ≠ g2; have := HI.out.lt; have := HI.out.e2; omega) _
  have y1 : w4.cell? ⟨g1, 0, none⟩ = some (.pointer (some ⟨gr, 0, none⟩)) := hg4.b1.cell 0
  have CE := Lib.hid (end_any gr _ _ _ _ _ w4 r4)
  have HG4 := Lib.hid hg4
  clear hw4 hg4 hb2 hb hkb r3 r4 HP y3 z3
  go_wp2_with fail
  refine CE.out.mono ?_
  rintro e w5 ⟨rfl, hE, hk⟩
  have HG5 := Lib.hid (HG4.out.call hk)
  have HE := Lib.hid hE
  clear hE hk
  go_wp2
  simp [bodyPostS, results, Tryd.results41, go_sem]
  exact ⟨⟨_, HG5.out⟩, HE.out⟩
end Go.Proofs.YtnbhgjionpidnaaDoor
