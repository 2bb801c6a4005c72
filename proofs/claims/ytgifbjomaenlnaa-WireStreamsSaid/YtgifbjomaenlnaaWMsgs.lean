/- Two rows of like messages are the same. Condition: both lie in memory. -/
import Derived.Test.YtgifbjomaenlnaaWESame
import Derived.Test.YtgifbjomaenlnaaStableG
import Derived.Test.YtgifbjomaenlnaaWKq
import Derived.Deep.CutBlock
import Derived.Deep.DeepCutAuto
namespace Go.Proofs.Ytgifbjomaenlnaa
open Go.RowKit

/-- A message's value: the message, and where its entries lie. -/
structure Mq where
  m : MsgM
  A : Option Addr
  n : Nat
  c : Nat
def Mq.v (q : Mq) : List Value := [.int .i64 q.m.kind, .int .i64 q.m.n0, .int .i64 q.m.n1, .int .i64 q.m.n2, .int .i64 q.m.n3, .int .i64 q.m.n4, .int .i64 q.m.n5, .slice q.A q.n q.c, .bool q.m.ok, .int .i64 q.m.n6]
def mqV : List Mq → List Value
  | [] => []
  | q :: l => q.v ++ mqV l
theorem mqV_length : ∀ l, (mqV l).length = l.length * 10
  | [] => rfl
  | q :: l => by rw [mqV, List.length_append, mqV_length l]; simp [Mq.v]; omega
theorem mqV_at : ∀ (l : List Mq) (k : Nat) (hk : k < l.length) (j : Nat), j < 10 → (mqV l)[k * 10 + j]? = (l[k].v)[j]?
  | [], k, hk, _, _ => by simp at hk
  | q :: l, 0, _, j, hj => by rw [mqV, Nat.zero_mul, Nat.zero_add, List.getElem?_append_left (by simp [Mq.v]; exact hj)]; rfl
  | q :: l, k + 1, hk, j, hj => by
    have := mqV_at l k (by simpa using hk) j hj
    rw [mqV, List.getElem?_append_right (by simp [Mq.v]; omega)]
    refine Eq.trans ?_ this
    congr 1
    simp [Mq.v]
    omega
theorem mqV_append : ∀ (a b : List Mq), mqV (a ++ b) = mqV a ++ mqV b
  | [], _ => rfl
  | q :: a, b => by rw [List.cons_append, mqV, mqV_append a b, mqV, List.append_assoc]
/-- Messages in a row. -/
structure RowM (w : World) (L : List Mq) (A : Option Addr) (n : Nat) : Prop where
  en : n = L.length
  es : Seg w A (mqV L)
  bn : n ≤ 1466015503701
  be : ∀ q ∈ L, Es w q.m.ents q.A q.n q.c
theorem RowM.bel {w w' : World} {L : List Mq} {A : Option Addr} {n : Nat} (h : RowM w L A n) (hb : Below w.heap.size w w') : RowM w' L A n := ⟨h.en, h.es.bel hb, h.bn, fun q hq => (h.be q hq).bel hb⟩
theorem RowM.at {w : World} {L : List Mq} {A : Option Addr} {n k : Nat} (h : RowM w L A n) (hk : k < L.length) : ∃ b off, A = some ⟨b, off, none⟩ ∧ b < w.heap.size ∧ ∀ j, j < 10 → w.cell? ⟨b, off + k * 10 + j, none⟩ = (L[k].v)[j]? := by
  obtain ⟨b, off, e, hl, hc⟩ := h.es (by
    intro e0
    have := mqV_length L
    rw [e0] at this
    simp only [List.length_nil] at this
    omega)
  have h1 := mqV_length L
  exact ⟨b, off, e, hl, fun j hj => by rw [Nat.add_assoc, hc _ (by omega), mqV_at L k hk j hj]⟩
theorem set_ten {B g : Nat} {w0 w : World} {c0 c1 c2 c3 c4 c5 c6 c7 c8 c9 : Value} (hg : B ≤ g) (hb : Below B w0 w) (h : Bk w g 24 #[c0, c1, c2, c3, c4, c5, c6, c7, c8, c9]) (v0 v1 v2 v3 v4 v5 v6 v7 v8 v9 : Value) : ∀ wf, ((((((((((w.setCell ⟨g, 0, none⟩ v0).setCell ⟨g, 1, none⟩ v1).setCell ⟨g, 2, none⟩ v2).setCell ⟨g, 3, none⟩ v3).setCell ⟨g, 4, none⟩ v4).setCell ⟨g, 5, none⟩ v5).setCell ⟨g, 6, none⟩ v6).setCell ⟨g, 7, none⟩ v7).setCell ⟨g, 8, none⟩ v8).setCell ⟨g, 9, none⟩ v9) = wf → Below B w0 wf ∧ Bk wf g 24 #[v0, v1, v2, v3, v4, v5, v6, v7, v8, v9] ∧ Kept1 g w wf := by
  intro wf hwf
  subst hwf
  have h := ((((((((((h.put 0 v0).put 1 v1).put 2 v2).put 3 v3).put 4 v4).put 5 v5).put 6 v6).put 7 v7).put 8 v8).put 9 v9)
  simp only [List.setIfInBounds_toArray, List.set_cons_zero, List.set_cons_succ] at h
  exact ⟨((((((((((hb.setCell (p := ⟨g, 0, none⟩) hg v0).setCell (p := ⟨g, 1, none⟩) hg v1).setCell (p := ⟨g, 2, none⟩) hg v2).setCell (p := ⟨g, 3, none⟩) hg v3).setCell (p := ⟨g, 4, none⟩) hg v4).setCell (p := ⟨g, 5, none⟩) hg v5).setCell (p := ⟨g, 6, none⟩) hg v6).setCell (p := ⟨g, 7, none⟩) hg v7).setCell (p := ⟨g, 8, none⟩) hg v8).setCell (p := ⟨g, 9, none⟩) hg v9), h, ((((((((((Kept1.set w g _ _).trans (Kept1.set _ _ _ _)).trans (Kept1.set _ _ _ _)).trans (Kept1.set _ _ _ _)).trans (Kept1.set _ _ _ _)).trans (Kept1.set _ _ _ _)).trans (Kept1.set _ _ _ _)).trans (Kept1.set _ _ _ _)).trans (Kept1.set _ _ _ _)).trans (Kept1.set _ _ _ _))⟩
/-- A block that holds any message. -/
def ZB (w : World) (g : Nat) : Prop := ∃ c0 c1 c2 c3 c4 c5 c6 c7 c8 c9, Bk w g 24 #[c0, c1, c2, c3, c4, c5, c6, c7, c8, c9]
/-- A block that holds one of two messages' values. -/
def MB (q1 q2 : Mq) (w : World) (g : Nat) : Prop := ∃ q : Mq, (q = q1 ∨ q = q2) ∧ Bk w g 24 #[.int .i64 q.m.kind, .int .i64 q.m.n0, .int .i64 q.m.n1, .int .i64 q.m.n2, .int .i64 q.m.n3, .int .i64 q.m.n4, .int .i64 q.m.n5, .slice q.A q.n q.c, .bool q.m.ok, .int .i64 q.m.n6]
theorem ZB.bel {w w' : World} {g : Nat} (h : ZB w g) (hb : Below w.heap.size w w') : ZB w' g := by
  obtain ⟨c0, c1, c2, c3, c4, c5, c6, c7, c8, c9, h⟩ := h
  exact ⟨c0, c1, c2, c3, c4, c5, c6, c7, c8, c9, h.bel hb⟩
theorem ZB.kept {w w' : World} {g g' : Nat} (h : ZB w g) (k : Kept1 g' w w') (hz : ZB w' g') : ZB w' g := by
  by_cases e : g = g'
  · subst e; exact hz
  · obtain ⟨c0, c1, c2, c3, c4, c5, c6, c7, c8, c9, h⟩ := h
    exact ⟨c0, c1, c2, c3, c4, c5, c6, c7, c8, c9, bk_kept h e k⟩
theorem MB.z {q1 q2 : Mq} {w : World} {g : Nat} (h : MB q1 q2 w g) : ZB w g := by
  obtain ⟨q, _, h⟩ := h
  exact ⟨_, _, _, _, _, _, _, _, _, _, h⟩
theorem MB.bel {q1 q2 : Mq} {w w' : World} {g : Nat} (h : MB q1 q2 w g) (hb : Below w.heap.size w w') : MB q1 q2 w' g := by
  obtain ⟨q, hq, h⟩ := h
  exact ⟨q, hq, h.bel hb⟩
theorem MB.kept {q1 q2 : Mq} {w w' : World} {g g' : Nat} (h : MB q1 q2 w g) (k : Kept1 g' w w') (hz : MB q1 q2 w' g') : MB q1 q2 w' g := by
  by_cases e : g = g'
  · subst e; exact hz
  · obtain ⟨q, hq, h⟩ := h
    exact ⟨q, hq, bk_kept h e k⟩
/-- Each operation's fact. -/
def mgF (base : Nat) (A B : Option Addr) (n c d k : Nat) (p1 p2 : Addr) (q1 q2 : Mq) (j : Nat) (v u : Value) (w : World) : Prop := match j with
  | 0 => v = .slice A n c
  | 1 => v = .int .i64 (k : Int)
  | 2 => v = .pointer (some p1)
  | 3 => v = .agg #[.int .i64 q1.m.kind, .int .i64 q1.m.n0, .int .i64 q1.m.n1, .int .i64 q1.m.n2, .int .i64 q1.m.n3, .int .i64 q1.m.n4, .int .i64 q1.m.n5, .slice q1.A q1.n q1.c, .bool q1.m.ok, .int .i64 q1.m.n6]
  | 4 => v = .slice B n d
  | 5 => v = .int .i64 (k : Int)
  | 6 => v = .pointer (some p2)
  | 7 => v = .agg #[.int .i64 q2.m.kind, .int .i64 q2.m.n0, .int .i64 q2.m.n1, .int .i64 q2.m.n2, .int .i64 q2.m.n3, .int .i64 q2.m.n4, .int .i64 q2.m.n5, .slice q2.A q2.n q2.c, .bool q2.m.ok, .int .i64 q2.m.n6]
  | 8 => ∃ g, v = .pointer (some ⟨g, 0, none⟩) ∧ base ≤ g ∧ ZB w g
  | 9 => ∃ g, v = .pointer (some ⟨g, 0, none⟩) ∧ base ≤ g ∧ ZB w g
  | 10 => ∃ g, u = .pointer (some ⟨g, 0, none⟩) ∧ base ≤ g ∧ MB q1 q2 w g
  | 11 => ∃ g, u = .pointer (some ⟨g, 0, none⟩) ∧ base ≤ g ∧ MB q1 q2 w g
  | _ => True
section
variable {base : Nat} {A B : Option Addr} {n c d k : Nat} {p1 p2 : Addr} {q1 q2 : Mq} {w w' : World}
theorem mgF_bel (hb : Below w.heap.size w w') : ∀ j v u, mgF base A B n c d k p1 p2 q1 q2 j v u w → mgF base A B n c d k p1 p2 q1 q2 j v u w' := by
  intro j v u h
  unfold mgF at *
  split at h <;> first | exact h | (obtain ⟨g, h1, h2, h3⟩ := h; exact ⟨g, h1, h2, h3.bel hb⟩)
theorem mgF_set {g : Nat} (k1 : Kept1 g w w') (hm : MB q1 q2 w' g) : ∀ j v u, mgF base A B n c d k p1 p2 q1 q2 j v u w → mgF base A B n c d k p1 p2 q1 q2 j v u w' := by
  intro j v u h
  unfold mgF at *
  split at h <;> first | exact h | (obtain ⟨g, h1, h2, h3⟩ := h; exact ⟨g, h1, h2, h3.kept k1 hm.z⟩) | (obtain ⟨g, h1, h2, h3⟩ := h; exact ⟨g, h1, h2, h3.kept k1 hm⟩)
end
set_option maxRecDepth 100000 in
set_option maxHeartbeats 4000000 in
theorem msgs_any (L1 L2 : List Mq) (hL : L1.map Mq.m = L2.map Mq.m) (A B : Option Addr) (n c d : Nat) (w : World) (hA : RowM w L1 A n) (hB : RowM w L2 B n) :
    Calls Try.prog 19 #[.slice A n c, .slice B n d] w fun e w' => e = .returned (.bool true) ∧ Below w.heap.size w w' := by
  have hn := hA.bn
  have HA := Lib.hid hA
  have HB := Lib.hid hB
  have HL := Lib.hid hL
  have hne : ((n : Int) != (n : Int)) = false := by simp
  clear hA hB hL
  go_enter Try.func19, Try.ntmps19
  go_wp2
  go_loopw [15] (fun i wr => ∃ k : Nat, k ≤ n ∧ i = .int .i64 k ∧ Hid (Below w.heap.size w wr)) (fun i _ => n - (intOf i).toNat)
  case atStart => exact ⟨0, by omega, rfl, Lib.hid (Below.refl _ _)⟩
  case round =>
    obtain ⟨k, hk, rfl, HW⟩ := hrel
    by_cases hlt : k < n
    · have hk1 : k < L1.length := by have := HA.out.en; omega
      have hk2 : k < L2.length := by have := HB.out.en; omega
      obtain ⟨b1, o1, rfl, hl1, hc1⟩ := HA.out.at hk1
      obtain ⟨b2, o2, rfl, hl2, hc2⟩ := HB.out.at hk2
      have e1 := HA.out.be _ (List.getElem_mem hk1)
      have e2 := HB.out.be _ (List.getElem_mem hk2)
      have hm : L1[k].m = L2[k].m := by
        have h1 := congrArg (fun l => l[k]?) HL.out
        simp only [List.getElem?_map, List.getElem?_eq_getElem hk1, List.getElem?_eq_getElem hk2, Option.map_some] at h1
        injection h1
      obtain ⟨q1, hq1⟩ : ∃ q, q = L1[k] := ⟨_, rfl⟩
      obtain ⟨q2, hq2⟩ : ∃ q, q = L2[k] := ⟨_, rfl⟩
      rw [← hq1, ← hq2] at hm
      rw [← hq1] at hc1 e1
      rw [← hq2] at hc2 e2
      have HC1 := Lib.hid (show ∀ j, j < 10 → wr.cell? ⟨b1, o1 + k * 10 + j, none⟩ = (q1.v)[j]? from fun j hj => (HW.out.cell (p := ⟨b1, o1 + k * 10 + j, none⟩) hl1).trans (hc1 j hj))
      have HC2 := Lib.hid (show ∀ j, j < 10 → wr.cell? ⟨b2, o2 + k * 10 + j, none⟩ = (q2.v)[j]? from fun j hj => (HW.out.cell (p := ⟨b2, o2 + k * 10 + j, none⟩) hl2).trans (hc2 j hj))
      have HLT1 := Lib.hid (show b1 < wr.heap.size from Nat.lt_of_lt_of_le hl1 HW.out.size)
      have HLT2 := Lib.hid (show b2 < wr.heap.size from Nat.lt_of_lt_of_le hl2 HW.out.size)
      have HE1 := Lib.hid (e1.bel HW.out)
      have HE2 := Lib.hid (e2.bel HW.out)
      have HM := Lib.hid hm
      clear hq1 hq2 hm hc1 hc2 e1 e2 hl1 hl2
      go_upto_region 6 with fail
      obtain ⟨W, hW⟩ : ∃ W, W = wr := ⟨_, rfl⟩
      subst hW
      refine wp_region_list [some 18, some 19, some 20, some 21, some 22, some 23, some 24, some 25, some 6, some 7, none, none] (fun j => match j with | 10 => 6 | 11 => 7 | _ => 0) (mgF W.heap.size (some ⟨b1, o1, none⟩) (some ⟨b2, o2, none⟩) n c d k ⟨b1, o1 + k * 10, none⟩ ⟨b2, o2 + k * 10, none⟩ q1 q2) (fun w' => Below W.heap.size W w') (by kernel_rfl) (Below.refl _ _).drew rfl (by kernel_rfl) (by kernel_rfl) (by kernel_rfl) (by kernel_rfl) (fun T hT => ?_)
      simp only [List.filterMap_cons, List.filterMap_nil, id, putsS, Act.put, List.setIfInBounds_toArray, List.set_cons_zero, List.set_cons_succ] at hT
      subst hT
      refine ⟨⟨?_, ?_, ?_, ?_, ?_, ?_, ?_, ?_, ?_, ?_, ?_, ?_, trivial⟩, ?_⟩
      · -- 0: Op.move t0
        refine StepL.act ?_
        intro f w1 hG hF K hK
        clear hF
        dsimp only at hK ⊢
        go_simp
        exact hK.out _ _ hG rfl (fun _ _ _ _ h => h)
      · -- 1: Op.move t5
        refine StepL.act ?_
        intro f w1 hG hF K hK
        clear hF
        dsimp only at hK ⊢
        go_simp
        exact hK.out _ _ hG rfl (fun _ _ _ _ h => h)
      · -- 2: Op.indexAddr 43 t18 t19
        refine StepL.act ?_
        intro f w1 hG hF K hK
        have d0 : (mgF W.heap.size (some ⟨b1, o1, none⟩) (some ⟨b2, o2, none⟩) n c d k ⟨b1, o1 + k * 10, none⟩ ⟨b2, o2 + k * 10, none⟩ q1 q2) 0 (f 18) (f 0) w1 := hF 0 (by kernel_rfl)
        have d1 : (mgF W.heap.size (some ⟨b1, o1, none⟩) (some ⟨b2, o2, none⟩) n c d k ⟨b1, o1 + k * 10, none⟩ ⟨b2, o2 + k * 10, none⟩ q1 q2) 1 (f 19) (f 0) w1 := hF 1 (by kernel_rfl)
        clear hF
        dsimp only at hK ⊢
        generalize hf18 : f 18 = v18 at *
        generalize hf19 : f 19 = v19 at *
        subst d0
        subst d1
        go_simp
        exact hK.out _ _ hG rfl (fun _ _ _ _ h => h)
      · -- 3: Op.load 24 t20
        refine StepL.act ?_
        intro f w1 hG hF K hK
        have d2 : (mgF W.heap.size (some ⟨b1, o1, none⟩) (some ⟨b2, o2, none⟩) n c d k ⟨b1, o1 + k * 10, none⟩ ⟨b2, o2 + k * 10, none⟩ q1 q2) 2 (f 20) (f 0) w1 := hF 2 (by kernel_rfl)
        clear hF
        dsimp only at hK ⊢
        generalize hf20 : f 20 = v20 at *
        subst d2
        have y0 : w1.cell? ⟨b1, o1 + k * 10, none⟩ = some (.int .i64 q1.m.kind) := (hG.cell (p := ⟨b1, o1 + k * 10 + 0, none⟩) HLT1.out).trans (HC1.out 0 (by decide))
        have y1 : w1.cell? ⟨b1, o1 + k * 10 + 1, none⟩ = some (.int .i64 q1.m.n0) := (hG.cell (p := ⟨b1, o1 + k * 10 + 1, none⟩) HLT1.out).trans (HC1.out 1 (by decide))
        have y2 : w1.cell? ⟨b1, o1 + k * 10 + 2, none⟩ = some (.int .i64 q1.m.n1) := (hG.cell (p := ⟨b1, o1 + k * 10 + 2, none⟩) HLT1.out).trans (HC1.out 2 (by decide))
        have y3 : w1.cell? ⟨b1, o1 + k * 10 + 3, none⟩ = some (.int .i64 q1.m.n2) := (hG.cell (p := ⟨b1, o1 + k * 10 + 3, none⟩) HLT1.out).trans (HC1.out 3 (by decide))
        have y4 : w1.cell? ⟨b1, o1 + k * 10 + 4, none⟩ = some (.int .i64 q1.m.n3) := (hG.cell (p := ⟨b1, o1 + k * 10 + 4, none⟩) HLT1.out).trans (HC1.out 4 (by decide))
        have y5 : w1.cell? ⟨b1, o1 + k * 10 + 5, none⟩ = some (.int .i64 q1.m.n4) := (hG.cell (p := ⟨b1, o1 + k * 10 + 5, none⟩) HLT1.out).trans (HC1.out 5 (by decide))
        have y6 : w1.cell? ⟨b1, o1 + k * 10 + 6, none⟩ = some (.int .i64 q1.m.n5) := (hG.cell (p := ⟨b1, o1 + k * 10 + 6, none⟩) HLT1.out).trans (HC1.out 6 (by decide))
        have y7 : w1.cell? ⟨b1, o1 + k * 10 + 7, none⟩ = some (.slice q1.A q1.n q1.c) := (hG.cell (p := ⟨b1, o1 + k * 10 + 7, none⟩) HLT1.out).trans (HC1.out 7 (by decide))
        have y8 : w1.cell? ⟨b1, o1 + k * 10 + 8, none⟩ = some (.bool q1.m.ok) := (hG.cell (p := ⟨b1, o1 + k * 10 + 8, none⟩) HLT1.out).trans (HC1.out 8 (by decide))
        have y9 : w1.cell? ⟨b1, o1 + k * 10 + 9, none⟩ = some (.int .i64 q1.m.n6) := (hG.cell (p := ⟨b1, o1 + k * 10 + 9, none⟩) HLT1.out).trans (HC1.out 9 (by decide))
        go_simp
        exact hK.out _ _ hG rfl (fun _ _ _ _ h => h)
      · -- 4: Op.move t1
        refine StepL.act ?_
        intro f w1 hG hF K hK
        clear hF
        dsimp only at hK ⊢
        go_simp
        exact hK.out _ _ hG rfl (fun _ _ _ _ h => h)
      · -- 5: Op.move t5
        refine StepL.act ?_
        intro f w1 hG hF K hK
        clear hF
        dsimp only at hK ⊢
        go_simp
        exact hK.out _ _ hG rfl (fun _ _ _ _ h => h)
      · -- 6: Op.indexAddr 43 t22 t23
        refine StepL.act ?_
        intro f w1 hG hF K hK
        have d4 : (mgF W.heap.size (some ⟨b1, o1, none⟩) (some ⟨b2, o2, none⟩) n c d k ⟨b1, o1 + k * 10, none⟩ ⟨b2, o2 + k * 10, none⟩ q1 q2) 4 (f 22) (f 0) w1 := hF 4 (by kernel_rfl)
        have d5 : (mgF W.heap.size (some ⟨b1, o1, none⟩) (some ⟨b2, o2, none⟩) n c d k ⟨b1, o1 + k * 10, none⟩ ⟨b2, o2 + k * 10, none⟩ q1 q2) 5 (f 23) (f 0) w1 := hF 5 (by kernel_rfl)
        clear hF
        dsimp only at hK ⊢
        generalize hf22 : f 22 = v22 at *
        generalize hf23 : f 23 = v23 at *
        subst d4
        subst d5
        go_simp
        exact hK.out _ _ hG rfl (fun _ _ _ _ h => h)
      · -- 7: Op.load 24 t24
        refine StepL.act ?_
        intro f w1 hG hF K hK
        have d6 : (mgF W.heap.size (some ⟨b1, o1, none⟩) (some ⟨b2, o2, none⟩) n c d k ⟨b1, o1 + k * 10, none⟩ ⟨b2, o2 + k * 10, none⟩ q1 q2) 6 (f 24) (f 0) w1 := hF 6 (by kernel_rfl)
        clear hF
        dsimp only at hK ⊢
        generalize hf24 : f 24 = v24 at *
        subst d6
        have y0 : w1.cell? ⟨b2, o2 + k * 10, none⟩ = some (.int .i64 q2.m.kind) := (hG.cell (p := ⟨b2, o2 + k * 10 + 0, none⟩) HLT2.out).trans (HC2.out 0 (by decide))
        have y1 : w1.cell? ⟨b2, o2 + k * 10 + 1, none⟩ = some (.int .i64 q2.m.n0) := (hG.cell (p := ⟨b2, o2 + k * 10 + 1, none⟩) HLT2.out).trans (HC2.out 1 (by decide))
        have y2 : w1.cell? ⟨b2, o2 + k * 10 + 2, none⟩ = some (.int .i64 q2.m.n1) := (hG.cell (p := ⟨b2, o2 + k * 10 + 2, none⟩) HLT2.out).trans (HC2.out 2 (by decide))
        have y3 : w1.cell? ⟨b2, o2 + k * 10 + 3, none⟩ = some (.int .i64 q2.m.n2) := (hG.cell (p := ⟨b2, o2 + k * 10 + 3, none⟩) HLT2.out).trans (HC2.out 3 (by decide))
        have y4 : w1.cell? ⟨b2, o2 + k * 10 + 4, none⟩ = some (.int .i64 q2.m.n3) := (hG.cell (p := ⟨b2, o2 + k * 10 + 4, none⟩) HLT2.out).trans (HC2.out 4 (by decide))
        have y5 : w1.cell? ⟨b2, o2 + k * 10 + 5, none⟩ = some (.int .i64 q2.m.n4) := (hG.cell (p := ⟨b2, o2 + k * 10 + 5, none⟩) HLT2.out).trans (HC2.out 5 (by decide))
        have y6 : w1.cell? ⟨b2, o2 + k * 10 + 6, none⟩ = some (.int .i64 q2.m.n5) := (hG.cell (p := ⟨b2, o2 + k * 10 + 6, none⟩) HLT2.out).trans (HC2.out 6 (by decide))
        have y7 : w1.cell? ⟨b2, o2 + k * 10 + 7, none⟩ = some (.slice q2.A q2.n q2.c) := (hG.cell (p := ⟨b2, o2 + k * 10 + 7, none⟩) HLT2.out).trans (HC2.out 7 (by decide))
        have y8 : w1.cell? ⟨b2, o2 + k * 10 + 8, none⟩ = some (.bool q2.m.ok) := (hG.cell (p := ⟨b2, o2 + k * 10 + 8, none⟩) HLT2.out).trans (HC2.out 8 (by decide))
        have y9 : w1.cell? ⟨b2, o2 + k * 10 + 9, none⟩ = some (.int .i64 q2.m.n6) := (hG.cell (p := ⟨b2, o2 + k * 10 + 9, none⟩) HLT2.out).trans (HC2.out 9 (by decide))
        go_simp
        exact hK.out _ _ hG rfl (fun _ _ _ _ h => h)
      · -- 8: Op.alloc 24
        refine StepL.act ?_
        intro f w1 hG hF K hK
        clear hF
        dsimp only at hK ⊢
        go_simp
        exact hK.out _ _ (hG.alloc hG.size _) ⟨w1.heap.size, rfl, hG.size, ⟨_, _, _, _, _, _, _, _, _, _, Bk.new w1 _ _⟩⟩ (fun j _ v u h => mgF_bel ((Below.refl _ _).alloc (Nat.le_refl _) _) j v u h)
      · -- 9: Op.alloc 24
        refine StepL.act ?_
        intro f w1 hG hF K hK
        clear hF
        dsimp only at hK ⊢
        go_simp
        exact hK.out _ _ (hG.alloc hG.size _) ⟨w1.heap.size, rfl, hG.size, ⟨_, _, _, _, _, _, _, _, _, _, Bk.new w1 _ _⟩⟩ (fun j _ v u h => mgF_bel ((Below.refl _ _).alloc (Nat.le_refl _) _) j v u h)
      · -- 10: Op.store 24 t6 t21
        refine StepL.act ?_
        intro f w1 hG hF K hK
        have d8 : (mgF W.heap.size (some ⟨b1, o1, none⟩) (some ⟨b2, o2, none⟩) n c d k ⟨b1, o1 + k * 10, none⟩ ⟨b2, o2 + k * 10, none⟩ q1 q2) 8 (f 6) (f 0) w1 := hF 8 (by kernel_rfl)
        have d3 : (mgF W.heap.size (some ⟨b1, o1, none⟩) (some ⟨b2, o2, none⟩) n c d k ⟨b1, o1 + k * 10, none⟩ ⟨b2, o2 + k * 10, none⟩ q1 q2) 3 (f 21) (f 0) w1 := hF 3 (by kernel_rfl)
        clear hF
        dsimp only at hK ⊢
        generalize hf6 : f 6 = v6 at *
        generalize hf21 : f 21 = v21 at *
        subst d3
        obtain ⟨g, hv, hg, c0, c1, c2, c3, c4, c5, c6, c7, c8, c9, hz⟩ := d8
        subst hv
        have y0 : w1.cell? ⟨g, 0, none⟩ = some c0 := hz.cell 0
        have z0 := hz.frozen 0
        have y1 : w1.cell? ⟨g, 1, none⟩ = some c1 := hz.cell 1
        have z1 := hz.frozen 1
        have y2 : w1.cell? ⟨g, 2, none⟩ = some c2 := hz.cell 2
        have z2 := hz.frozen 2
        have y3 : w1.cell? ⟨g, 3, none⟩ = some c3 := hz.cell 3
        have z3 := hz.frozen 3
        have y4 : w1.cell? ⟨g, 4, none⟩ = some c4 := hz.cell 4
        have z4 := hz.frozen 4
        have y5 : w1.cell? ⟨g, 5, none⟩ = some c5 := hz.cell 5
        have z5 := hz.frozen 5
        have y6 : w1.cell? ⟨g, 6, none⟩ = some c6 := hz.cell 6
        have z6 := hz.frozen 6
        have y7 : w1.cell? ⟨g, 7, none⟩ = some c7 := hz.cell 7
        have z7 := hz.frozen 7
        have y8 : w1.cell? ⟨g, 8, none⟩ = some c8 := hz.cell 8
        have z8 := hz.frozen 8
        have y9 : w1.cell? ⟨g, 9, none⟩ = some c9 := hz.cell 9
        have z9 := hz.frozen 9
        have SET := set_ten hg hG hz (.int .i64 q1.m.kind) (.int .i64 q1.m.n0) (.int .i64 q1.m.n1) (.int .i64 q1.m.n2) (.int .i64 q1.m.n3) (.int .i64 q1.m.n4) (.int .i64 q1.m.n5) (.slice q1.A q1.n q1.c) (.bool q1.m.ok) (.int .i64 q1.m.n6)
        go_simp
        obtain ⟨g1, g2, g3⟩ := SET _ rfl
        have hm : MB q1 q2 _ g := ⟨q1, Or.inl rfl, g2⟩
        exact hK.out undef _ g1 ⟨g, hf6, hg, hm⟩ (fun j _ v u h => mgF_set g3 hm j v u h)
      · -- 11: Op.store 24 t7 t25
        refine StepL.act ?_
        intro f w1 hG hF K hK
        have d9 : (mgF W.heap.size (some ⟨b1, o1, none⟩) (some ⟨b2, o2, none⟩) n c d k ⟨b1, o1 + k * 10, none⟩ ⟨b2, o2 + k * 10, none⟩ q1 q2) 9 (f 7) (f 0) w1 := hF 9 (by kernel_rfl)
        have d7 : (mgF W.heap.size (some ⟨b1, o1, none⟩) (some ⟨b2, o2, none⟩) n c d k ⟨b1, o1 + k * 10, none⟩ ⟨b2, o2 + k * 10, none⟩ q1 q2) 7 (f 25) (f 0) w1 := hF 7 (by kernel_rfl)
        clear hF
        dsimp only at hK ⊢
        generalize hf7 : f 7 = v7 at *
        generalize hf25 : f 25 = v25 at *
        subst d7
        obtain ⟨g, hv, hg, c0, c1, c2, c3, c4, c5, c6, c7, c8, c9, hz⟩ := d9
        subst hv
        have y0 : w1.cell? ⟨g, 0, none⟩ = some c0 := hz.cell 0
        have z0 := hz.frozen 0
        have y1 : w1.cell? ⟨g, 1, none⟩ = some c1 := hz.cell 1
        have z1 := hz.frozen 1
        have y2 : w1.cell? ⟨g, 2, none⟩ = some c2 := hz.cell 2
        have z2 := hz.frozen 2
        have y3 : w1.cell? ⟨g, 3, none⟩ = some c3 := hz.cell 3
        have z3 := hz.frozen 3
        have y4 : w1.cell? ⟨g, 4, none⟩ = some c4 := hz.cell 4
        have z4 := hz.frozen 4
        have y5 : w1.cell? ⟨g, 5, none⟩ = some c5 := hz.cell 5
        have z5 := hz.frozen 5
        have y6 : w1.cell? ⟨g, 6, none⟩ = some c6 := hz.cell 6
        have z6 := hz.frozen 6
        have y7 : w1.cell? ⟨g, 7, none⟩ = some c7 := hz.cell 7
        have z7 := hz.frozen 7
        have y8 : w1.cell? ⟨g, 8, none⟩ = some c8 := hz.cell 8
        have z8 := hz.frozen 8
        have y9 : w1.cell? ⟨g, 9, none⟩ = some c9 := hz.cell 9
        have z9 := hz.frozen 9
        have SET := set_ten hg hG hz (.int .i64 q2.m.kind) (.int .i64 q2.m.n0) (.int .i64 q2.m.n1) (.int .i64 q2.m.n2) (.int .i64 q2.m.n3) (.int .i64 q2.m.n4) (.int .i64 q2.m.n5) (.slice q2.A q2.n q2.c) (.bool q2.m.ok) (.int .i64 q2.m.n6)
        go_simp
        obtain ⟨g1, g2, g3⟩ := SET _ rfl
        have hm : MB q1 q2 _ g := ⟨q2, Or.inr rfl, g2⟩
        exact hK.out undef _ g1 ⟨g, hf7, hg, hm⟩ (fun j _ v u h => mgF_set g3 hm j v u h)
      intro f w6 hG hF
      obtain ⟨g6, e6, hg6, hm6⟩ : (mgF W.heap.size (some ⟨b1, o1, none⟩) (some ⟨b2, o2, none⟩) n c d k ⟨b1, o1 + k * 10, none⟩ ⟨b2, o2 + k * 10, none⟩ q1 q2) 10 undef (f 6) w6 := hF 10 (by decide)
      obtain ⟨g7, e7, hg7, hm7⟩ : (mgF W.heap.size (some ⟨b1, o1, none⟩) (some ⟨b2, o2, none⟩) n c d k ⟨b1, o1 + k * 10, none⟩ ⟨b2, o2 + k * 10, none⟩ q1 q2) 11 undef (f 7) w6 := hF 11 (by decide)
      clear hF
      dsimp only
      generalize f 18 = v18
      generalize f 19 = v19
      generalize f 20 = v20
      generalize f 21 = v21
      generalize f 22 = v22
      generalize f 23 = v23
      generalize f 24 = v24
      generalize f 25 = v25
      generalize f 6 = v6 at *
      generalize f 7 = v7 at *
      subst e6
      subst e7
      obtain ⟨M, hM⟩ : ∃ M, M = q1.m := ⟨_, rfl⟩
      obtain ⟨q6, hq6, hb6⟩ := hm6
      obtain ⟨q7, hq7, hb7⟩ := hm7
      have hpick : ∀ q, (q = q1 ∨ q = q2) → q.m = M ∧ Es W M.ents q.A q.n q.c := fun q hq => by
        rcases hq with rfl | rfl
        · exact ⟨hM.symm, by rw [hM]; exact HE1.out⟩
        · exact ⟨by rw [hM]; exact HM.out.symm, by rw [hM, HM.out]; exact HE2.out⟩
      obtain ⟨m6, s6⟩ := hpick q6 hq6
      obtain ⟨m7, s7⟩ := hpick q7 hq7
      rw [m6] at hb6
      rw [m7] at hb7
      have hn67 : q7.n = q6.n := by rw [s6.en, s7.en]
      have CE := Lib.hid (esame_any M.ents q6.A q7.A q6.n q6.c q7.c w6 (s6.bel hG) (by have := s7.bel hG; rw [hn67] at this; exact this))
      have HW6 := Lib.hid (HW.out.trans (hG.mono HW.out.size))
      have x1 : ((M.kind : Int) != M.kind) = false := by simp
      have x2 : ((M.n0 : Int) != M.n0) = false := by simp
      have x3 : ((M.n1 : Int) != M.n1) = false := by simp
      have x4 : ((M.n2 : Int) != M.n2) = false := by simp
      have x5 : ((M.n3 : Int) != M.n3) = false := by simp
      have x6 : ((M.n4 : Int) != M.n4) = false := by simp
      have x7 : ((M.n5 : Int) != M.n5) = false := by simp
      have x8 : ((M.n6 : Int) != M.n6) = false := by simp
      have x9 : (M.ok != M.ok) = false := by simp
      have y0 : w6.cell? ⟨g6, 0, none⟩ = some (.int .i64 M.kind) := hb6.cell 0
      have y1 : w6.cell? ⟨g6, 1, none⟩ = some (.int .i64 M.n0) := hb6.cell 1
      have y2 : w6.cell? ⟨g6, 2, none⟩ = some (.int .i64 M.n1) := hb6.cell 2
      have y3 : w6.cell? ⟨g6, 3, none⟩ = some (.int .i64 M.n2) := hb6.cell 3
      have y4 : w6.cell? ⟨g6, 4, none⟩ = some (.int .i64 M.n3) := hb6.cell 4
      have y5 : w6.cell? ⟨g6, 5, none⟩ = some (.int .i64 M.n4) := hb6.cell 5
      have y6 : w6.cell? ⟨g6, 6, none⟩ = some (.int .i64 M.n5) := hb6.cell 6
      have y7 : w6.cell? ⟨g6, 7, none⟩ = some (.slice q6.A q6.n q6.c) := hb6.cell 7
      have y8 : w6.cell? ⟨g6, 8, none⟩ = some (.bool M.ok) := hb6.cell 8
      have y9 : w6.cell? ⟨g6, 9, none⟩ = some (.int .i64 M.n6) := hb6.cell 9
      have z0 : w6.cell? ⟨g7, 0, none⟩ = some (.int .i64 M.kind) := hb7.cell 0
      have z1 : w6.cell? ⟨g7, 1, none⟩ = some (.int .i64 M.n0) := hb7.cell 1
      have z2 : w6.cell? ⟨g7, 2, none⟩ = some (.int .i64 M.n1) := hb7.cell 2
      have z3 : w6.cell? ⟨g7, 3, none⟩ = some (.int .i64 M.n2) := hb7.cell 3
      have z4 : w6.cell? ⟨g7, 4, none⟩ = some (.int .i64 M.n3) := hb7.cell 4
      have z5 : w6.cell? ⟨g7, 5, none⟩ = some (.int .i64 M.n4) := hb7.cell 5
      have z6 : w6.cell? ⟨g7, 6, none⟩ = some (.int .i64 M.n5) := hb7.cell 6
      have z7 : w6.cell? ⟨g7, 7, none⟩ = some (.slice q7.A q7.n q7.c) := hb7.cell 7
      have z8 : w6.cell? ⟨g7, 8, none⟩ = some (.bool M.ok) := hb7.cell 8
      have z9 : w6.cell? ⟨g7, 9, none⟩ = some (.int .i64 M.n6) := hb7.cell 9
      rw [hn67] at z7
      clear hb6 hb7 s6 s7 m6 m7 hq6 hq7 hpick hn67 hG hM HE1 HE2 HC1 HC2 HM HLT1 HLT2
      go_wp2_with fail
      refine CE.out.mono ?_
      rintro e w8 ⟨rfl, hb8⟩
      have HW8 := Lib.hid (HW6.out.trans (hb8.mono HW6.out.size))
      clear hb8 CE
      go_wp2_with fail
      go_roundw
      case rel => exact ⟨k + 1, by omega, by go_num, HW8⟩
      case measure => simp [intOf]; omega
    · go_wp2
      go_ret
      exact ⟨rfl, HW.out⟩
end Go.Proofs.Ytgifbjomaenlnaa
