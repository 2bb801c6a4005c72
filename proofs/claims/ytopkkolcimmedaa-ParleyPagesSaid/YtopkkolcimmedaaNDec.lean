/- Decode. Condition: the bytes lie in memory. -/
import Derived.Test.YtopkkolcimmedaaRdNode
import Derived.Tactics
import Derived.Tactics2
import Derived.Defers
import Derived.Recover
namespace Go.Proofs.Ytopkkolcimmedaa
open Go.RowKit

def zNode : Array Value := #[.bool false, .slice none 0 0, .slice none 0 0, .slice none 0 0]
theorem run_assert_broken (t : TypeId) (v : Value) (w : World) : (Instr.typeAssert (.iface 66 v) t 66 true).run Try.prog w = .ok (.tuple #[v, .bool true]) w := by
  simp [Instr.typeAssert, Sem.run_bind, run_underlying Try.underlying66]
/-- The answer's two variables hold a refusal. -/
structure DecZ (g : Nat) (w w' : World) : Prop where
  nd : Bk w' g 30 zNode
  er : Bk w' (g + 1) 24 #[.int .i64 4]
  bel : Below g w w'
set_option maxRecDepth 100000 in
theorem dcatch_pan (g : Nat) (older : List PanicEntry) (w : World) (hn : Bk w g 30 zNode) (he : Bk w (g + 1) 24 #[.int .i64 0]) :
    CallsD Try.prog 29 #[.pointer (some ⟨g, 0, none⟩), .pointer (some ⟨g + 1, 0, none⟩)] (.panicking ({ v := .iface 66 (.agg #[]), recovered := false } :: older)) w fun e u' w' =>
      e = .returned (.tuple #[]) ∧ u' = .panicking ({ v := .iface 66 (.agg #[]), recovered := true } :: older) ∧ DecZ g w w' := by
  have hta := run_assert_broken
  have hn2 := hn.alloc (.cells #[] 66)
  have he2 := he.alloc (.cells #[] 66)
  have c0 : (w.alloc (.cells #[] 66)).cell? ⟨g, 0, none⟩ = some (.bool false) := hn2.cell 0
  have c1 : (w.alloc (.cells #[] 66)).cell? ⟨g, 1, none⟩ = some (.slice none 0 0) := hn2.cell 1
  have c2 : (w.alloc (.cells #[] 66)).cell? ⟨g, 2, none⟩ = some (.slice none 0 0) := hn2.cell 2
  have c3 : (w.alloc (.cells #[] 66)).cell? ⟨g, 3, none⟩ = some (.slice none 0 0) := hn2.cell 3
  have c4 : (w.alloc (.cells #[] 66)).cell? ⟨g + 1, 0, none⟩ = some (.int .i64 0) := he2.cell 0
  have z0 := hn2.frozen 0
  have z1 := hn2.frozen 1
  have z2 := hn2.frozen 2
  have z3 := hn2.frozen 3
  have z4 := he2.frozen 0
  have HZ := Lib.hid (show ∀ w', w' = ((((((w.alloc (.cells #[] 66)).setCell ⟨g, 0, none⟩ (.bool false)).setCell ⟨g, 1, none⟩ (.slice none 0 0)).setCell ⟨g, 2, none⟩ (.slice none 0 0)).setCell ⟨g, 3, none⟩ (.slice none 0 0)).setCell ⟨g + 1, 0, none⟩ (.int .i64 4)) → DecZ g w w' from fun w' hw => by
    subst hw
    refine ⟨?_, ?_, ?_⟩
    · exact ((((hn2.put 0 (.bool false)).put 1 (.slice none 0 0)).put 2 (.slice none 0 0)).put 3 (.slice none 0 0)).far (by simp) _
    · exact ((((he2.far (by simp) _).far (by simp) _).far (by simp) _).far (by simp) _).put 0 (.int .i64 4)
    · exact ((((((Below.refl g w).alloc (by have := hn.lt; omega) _).setCell (p := ⟨g, 0, none⟩) (Nat.le_refl _) _).setCell (p := ⟨g, 1, none⟩) (Nat.le_refl _) _).setCell (p := ⟨g, 2, none⟩) (Nat.le_refl _) _).setCell (p := ⟨g, 3, none⟩) (Nat.le_refl _) _).setCell (p := ⟨g + 1, 0, none⟩) (by simp) _)
  clear hn he hn2 he2
  refine callsD_of_wpS Try.func29 rfl fun c₀ cs hu => ?_
  apply wpS_seq
  apply wpS_region
  simp only [Try.ntmps29, List.size_toArray, List.length_cons, List.length_nil, Nat.reduceAdd, Nat.reduceSub, Array.replicate_succ,
     Array.replicate_zero, List.push_toArray, List.append_toArray, List.nil_append, List.cons_append]
  simp [wpOpsS, go_sem, recoverD, hu, Exit.thenS]
  refine wpS_of_wp ?_
  go_wp2
  simp [bodyPostS, results, Try.results29, go_sem]
  exact HZ.out _ rfl
set_option maxRecDepth 100000 in
theorem dcatch_idle (g : Nat) (w : World) :
    CallsD Try.prog 29 #[.pointer (some ⟨g, 0, none⟩), .pointer (some ⟨g + 1, 0, none⟩)] .returning w fun e u' w' =>
      e = .returned (.tuple #[]) ∧ u' = .returning ∧ w' = w := by
  refine callsD_of_wpS Try.func29 rfl fun c₀ cs hu => ?_
  apply wpS_seq
  apply wpS_region
  simp only [Try.ntmps29, List.size_toArray, List.length_cons, List.length_nil, Nat.reduceAdd, Nat.reduceSub, Array.replicate_succ,
     Array.replicate_zero, List.push_toArray, List.append_toArray, List.nil_append, List.cons_append]
  simp [wpOpsS, go_sem, recoverD, hu, Exit.thenS]
  refine wpS_of_wp ?_
  go_wp2
  cases c₀
  simp_all [bodyPostS, results, Try.results29]
/-- What Decode comes to. -/
def DecPost (w0 : World) (l : List Nat) (e : Ending) (w' : World) : Prop :=
  Below w0.heap.size w0 w' ∧ if l.length = 256 then (match nodeP l with
    | none => e = .returned (.tuple #[.agg zNode, .int .i64 4])
    | some n => ∃ A C D ca cb cc, e = .returned (.tuple #[.agg #[.bool n.leaf, .slice A n.keys.length ca, .slice C n.vals.length cb, .slice D n.kids.length cc], .int .i64 0]) ∧ Nd w' n A C D n.keys.length ca n.vals.length cb n.kids.length cc ∧ (∀ a, A = some a → w0.heap.size ≤ a.block) ∧ (∀ a, C = some a → w0.heap.size ≤ a.block))
    else e = .returned (.tuple #[.agg zNode, .int .i64 1])
set_option maxRecDepth 100000 in
set_option maxHeartbeats 2000000 in
theorem dec_any (A : Option Addr) (n c : Nat) (l : List Nat) (hn : n = l.length) (hnc : n ≤ c) (hl : ∀ x ∈ l, x < 256) (w : World) (hA : Seg w A (u8s l)) :
    Calls Try.prog 12 #[.slice A n c] w (DecPost w l) := by
  have hmf : ∀ (fn : Fn) (first cap : Array Value) (w : World), (Instr.makeFunc fn first cap).run Try.prog w = .ok (.func fn first cap) w := fun _ _ _ _ => rfl
  obtain ⟨wa, hwa⟩ : ∃ wa, wa = w.alloc (.cells zNode 30) := ⟨_, rfl⟩
  obtain ⟨wb, hwb⟩ : ∃ wb, wb = wa.alloc (.cells #[.int .i64 0] 24) := ⟨_, rfl⟩
  have hsa : wa.heap.size = w.heap.size + 1 := by rw [hwa]; simp
  have hsb : wb.heap.size = w.heap.size + 2 := by rw [hwb]; simp [hsa]
  have Ba : Below w.heap.size w wa := by rw [hwa]; exact (Below.refl _ _).alloc (Nat.le_refl _) _
  have Bb : Below w.heap.size w wb := by rw [hwb]; exact Ba.alloc (by omega) _
  have X1 : Bk wb w.heap.size 30 zNode := by rw [hwb, hwa]; exact (Bk.new w _ _).alloc _
  have X2 : Bk wb (w.heap.size + 1) 24 #[.int .i64 0] := by rw [hwb, ← hsa]; exact Bk.new wa _ _
  by_cases h256 : l.length = 256
  · obtain rfl : n = 256 := by omega
    obtain ⟨b, off, hAe, hbl⟩ : ∃ b off, A = some ⟨b, off, none⟩ ∧ b < w.heap.size := by
      obtain ⟨b, off, h1, h2, _⟩ := hA.pick (k := 0) (by rw [u8s_length]; omega)
      exact ⟨b, off, h1, h2⟩
    obtain ⟨x0, y0, l1, hle⟩ : ∃ x0 y0 l1, l = x0 :: y0 :: l1 := by
      match l, h256 with
      | x :: y :: l1, _ => exact ⟨x, y, l1, rfl⟩
    obtain ⟨wc, hwc⟩ : ∃ wc, wc = wb.alloc (.cells #[.slice A 256 c] 69) := ⟨_, rfl⟩
    have Bc : Below w.heap.size w wc := by rw [hwc]; exact Bb.alloc (by omega) _
    have hRd : Rd wc.heap.size wc (w.heap.size + 2) (x0 :: y0 :: l1) := by
      rw [← hle]
      refine ⟨A, c, ?_, by omega, hA.bel Bc, fun a e => ?_⟩
      · rw [hwc, h256, ← hsb]; exact Bk.new wb _ _
      · have h1 := Bc.size
        rw [hAe] at e
        injection e with e
        subst e
        exact ⟨by show b ≠ _; omega, by show b < _; omega⟩
    have Y1 : Bk wc w.heap.size 30 zNode := by rw [hwc]; exact X1.alloc _
    have Y2 : Bk wc (w.heap.size + 1) 24 #[.int .i64 0] := by rw [hwc]; exact X2.alloc _
    have HN := node_any (w.heap.size + 2) x0 y0 l1 wc hRd (by rw [← hle]; exact hl) (by rw [hle] at h256; simp at h256; omega)
    rw [← hle] at HN
    have HN := Lib.hid HN
    have HY1 := Lib.hid Y1
    have HY2 := Lib.hid Y2
    have HBc := Lib.hid Bc
    have HWA := Lib.hid hwa
    have HWB := Lib.hid hwb
    have HWC := Lib.hid hwc
    have HSB := Lib.hid hsb
    have H256 := Lib.hid h256
    clear hn hA hAe hl hRd Y1 Y2 Bc Bb Ba X1 X2 hwa hwb hwc hsa hsb h256 hle hbl
    unfold zNode at HWA
    go_enter_defers Try.func12, Try.ntmps12
    go_upto_if 7 with fail
    rw [← HWA.out, ← HWB.out]
    go_upto_region 5 with fail
    rw [← HWC.out, HSB.out]
    have hsc : wc.heap.size = w.heap.size + 3 := by rw [HWC.out]; simp [HSB.out]
    have HSC := Lib.hid hsc
    clear hsc
    go_wp2_with fail
    refine HN.out.mono ?_
    rintro e w1 ⟨hk, hm⟩
    have hb1 : Below w.heap.size w w1 := HBc.out.trans (hk.bel.mono (by omega))
    have hz1 : w.heap.size + 3 ≤ w1.heap.size := by have := hk.kept.size; have := HSC.out; omega
    have Y1 : Bk w1 w.heap.size 30 zNode := bk_kept HY1.out (by omega) hk.kept
    have Y2 : Bk w1 (w.heap.size + 1) 24 #[.int .i64 0] := bk_kept HY2.out (by omega) hk.kept
    have HB1 := Lib.hid hb1
    have HY1 := Lib.hid Y1
    have HY2 := Lib.hid Y2
    cases hnp : nodeP l with
    | none =>
      rw [hnp] at hm
      subst hm
      have HP := Lib.hid (show ∀ e w', Below w.heap.size w w' → e = .returned (.tuple #[.agg zNode, .int .i64 4]) → DecPost w l e w' from fun e w' hb he => ⟨hb, by rw [if_pos H256.out, hnp]; exact he⟩)
      clear hk hb1 Y1 Y2 hnp
      generalize w.heap.size = g at *
      refine leaves_cons (f := 29) (args := #[.pointer (some ⟨g, 0, none⟩), .pointer (some ⟨g + 1, 0, none⟩)]) (by simp) (by simp [go_sem]) ?_
      refine (dcatch_pan g [] _ HY1.out HY2.out).mono ?_
      rintro e u' w'' ⟨rfl, rfl, hz⟩
      have s0 : w''.cell? ⟨g, 0, none⟩ = some (.bool false) := hz.nd.cell 0
      have s1 : w''.cell? ⟨g, 1, none⟩ = some (.slice none 0 0) := hz.nd.cell 1
      have s2 : w''.cell? ⟨g, 2, none⟩ = some (.slice none 0 0) := hz.nd.cell 2
      have s3 : w''.cell? ⟨g, 3, none⟩ = some (.slice none 0 0) := hz.nd.cell 3
      have s4 : w''.cell? ⟨g + 1, 0, none⟩ = some (.int .i64 4) := hz.er.cell 0
      have HZ := Lib.hid (HB1.out.trans hz.bel)
      clear hz
      simp [Leaves, settle, results, Try.results12, go_sem, s0, s1, s2, s3, s4]
      exact HP.out _ _ HZ.out rfl
    | some m =>
      rw [hnp] at hm
      obtain ⟨A1, C1, D1, ca, cb, cc, rfl, hnd, fA, fC, fD⟩ := hm
      have HP := Lib.hid (show ∀ e w', Below w.heap.size w w' → e = .returned (.tuple #[.agg #[.bool m.leaf, .slice A1 m.keys.length ca, .slice C1 m.vals.length cb, .slice D1 m.kids.length cc], .int .i64 0]) → Nd w' m A1 C1 D1 m.keys.length ca m.vals.length cb m.kids.length cc → DecPost w l e w' from fun e w' hb he hn => ⟨hb, by rw [if_pos H256.out, hnp]; exact ⟨A1, C1, D1, ca, cb, cc, he, hn, (fun a e => by have := fA a e; have := HSC.out; omega), (fun a e => by have := fC a e; have := HSC.out; omega)⟩⟩)
      have SET : ∀ w', w' = ((((w1.setCell ⟨w.heap.size, 0, none⟩ (.bool m.leaf)).setCell ⟨w.heap.size, 1, none⟩ (.slice A1 m.keys.length ca)).setCell ⟨w.heap.size, 2, none⟩ (.slice C1 m.vals.length cb)).setCell ⟨w.heap.size, 3, none⟩ (.slice D1 m.kids.length cc)).setCell ⟨w.heap.size + 1, 0, none⟩ (.int .i64 0) → Bk w' w.heap.size 30 #[.bool m.leaf, .slice A1 m.keys.length ca, .slice C1 m.vals.length cb, .slice D1 m.kids.length cc] ∧ Bk w' (w.heap.size + 1) 24 #[.int .i64 0] ∧ Below w.heap.size w w' ∧ Nd w' m A1 C1 D1 m.keys.length ca m.vals.length cb m.kids.length cc := fun w' hw => by
        have k1 : Kept1 w.heap.size w1 ((((w1.setCell ⟨w.heap.size, 0, none⟩ (.bool m.leaf)).setCell ⟨w.heap.size, 1, none⟩ (.slice A1 m.keys.length ca)).setCell ⟨w.heap.size, 2, none⟩ (.slice C1 m.vals.length cb)).setCell ⟨w.heap.size, 3, none⟩ (.slice D1 m.kids.length cc)) := (((Kept1.set w1 _ _ _).trans (Kept1.set _ _ _ _)).trans (Kept1.set _ _ _ _)).trans (Kept1.set _ _ _ _)
        have n1 := nd_kept hnd k1 (fun a e => by have := fA a e; have := HSC.out; omega) (fun a e => by have := fC a e; have := HSC.out; omega) (fun a e => by have := fD a e; have := HSC.out; omega)
        have n2 := nd_kept n1 (Kept1.set _ (w.heap.size + 1) 0 (.int .i64 0)) (fun a e => by have := fA a e; have := HSC.out; omega) (fun a e => by have := fC a e; have := HSC.out; omega) (fun a e => by have := fD a e; have := HSC.out; omega)
        subst hw
        refine ⟨?_, ?_, ?_, n2⟩
        · exact ((((Y1.put 0 (.bool m.leaf)).put 1 (.slice A1 m.keys.length ca)).put 2 (.slice C1 m.vals.length cb)).put 3 (.slice D1 m.kids.length cc)).far (by simp) _
        · exact ((((Y2.far (by simp) _).far (by simp) _).far (by simp) _).far (by simp) _).put 0 (.int .i64 0)
        · exact ((((hb1.setCell (p := ⟨w.heap.size, 0, none⟩) (Nat.le_refl _) _).setCell (p := ⟨w.heap.size, 1, none⟩) (Nat.le_refl _) _).setCell (p := ⟨w.heap.size, 2, none⟩) (Nat.le_refl _) _).setCell (p := ⟨w.heap.size, 3, none⟩) (Nat.le_refl _) _).setCell (p := ⟨w.heap.size + 1, 0, none⟩) (by simp) _
      have HSET := Lib.hid SET
      have u0 : w1.cell? ⟨w.heap.size, 0, none⟩ = some (.bool false) := Y1.cell 0
      have u1 : w1.cell? ⟨w.heap.size, 1, none⟩ = some (.slice none 0 0) := Y1.cell 1
      have u2 : w1.cell? ⟨w.heap.size, 2, none⟩ = some (.slice none 0 0) := Y1.cell 2
      have u3 : w1.cell? ⟨w.heap.size, 3, none⟩ = some (.slice none 0 0) := Y1.cell 3
      have u4 : w1.cell? ⟨w.heap.size + 1, 0, none⟩ = some (.int .i64 0) := Y2.cell 0
      have z0 := Y1.frozen 0
      have z1 := Y1.frozen 1
      have z2 := Y1.frozen 2
      have z3 := Y1.frozen 3
      have z4 := Y2.frozen 0
      clear SET Y1 Y2 hk hb1 hnd fA fC fD hnp
      go_wp2_with fail
      generalize hwf : ((((w1.setCell ⟨w.heap.size, 0, none⟩ (.bool m.leaf)).setCell ⟨w.heap.size, 1, none⟩ (.slice A1 m.keys.length ca)).setCell ⟨w.heap.size, 2, none⟩ (.slice C1 m.vals.length cb)).setCell ⟨w.heap.size, 3, none⟩ (.slice D1 m.kids.length cc)).setCell ⟨w.heap.size + 1, 0, none⟩ (.int .i64 0) = wf
      obtain ⟨g1, g2, g3, g4⟩ := HSET.out wf hwf.symm
      clear hwf u0 u1 u2 u3 u4 z0 z1 z2 z3 z4 HSET HY1 HY2
      have HG3 := Lib.hid g3
      have HG4 := Lib.hid g4
      clear g3 g4
      have s0 : wf.cell? ⟨w.heap.size, 0, none⟩ = some (.bool m.leaf) := g1.cell 0
      have s1 : wf.cell? ⟨w.heap.size, 1, none⟩ = some (.slice A1 m.keys.length ca) := g1.cell 1
      have s2 : wf.cell? ⟨w.heap.size, 2, none⟩ = some (.slice C1 m.vals.length cb) := g1.cell 2
      have s3 : wf.cell? ⟨w.heap.size, 3, none⟩ = some (.slice D1 m.kids.length cc) := g1.cell 3
      have s4 : wf.cell? ⟨w.heap.size + 1, 0, none⟩ = some (.int .i64 0) := g2.cell 0
      clear g1 g2
      refine leaves_cons (f := 29) (args := #[.pointer (some ⟨w.heap.size, 0, none⟩), .pointer (some ⟨w.heap.size + 1, 0, none⟩)]) (by simp) (by simp [go_sem]) ?_
      refine (dcatch_idle w.heap.size _).mono ?_
      rintro e u' w'' ⟨rfl, rfl, rfl⟩
      simp [Leaves, settle, results, Try.results12, go_sem, s0, s1, s2, s3, s4]
      exact HP.out _ _ HG3.out rfl HG4.out
  · have hp : ∀ e w', Below w.heap.size w w' → e = .returned (.tuple #[.agg zNode, .int .i64 1]) → DecPost w l e w' := fun e w' hb he => ⟨hb, by rw [if_neg h256]; exact he⟩
    have HP := Lib.hid hp
    have i1 : ((n : Int) != 256) = true := by rw [bne_iff_ne]; omega
    have u0 : wb.cell? ⟨w.heap.size, 0, none⟩ = some (.bool false) := X1.cell 0
    have u1 : wb.cell? ⟨w.heap.size, 1, none⟩ = some (.slice none 0 0) := X1.cell 1
    have u2 : wb.cell? ⟨w.heap.size, 2, none⟩ = some (.slice none 0 0) := X1.cell 2
    have u3 : wb.cell? ⟨w.heap.size, 3, none⟩ = some (.slice none 0 0) := X1.cell 3
    have u4 : wb.cell? ⟨w.heap.size + 1, 0, none⟩ = some (.int .i64 0) := X2.cell 0
    have z0 := X1.frozen 0
    have z1 := X1.frozen 1
    have z2 := X1.frozen 2
    have z3 := X1.frozen 3
    have z4 := X2.frozen 0
    have SET : ∀ w', w' = (((((wb.setCell ⟨w.heap.size, 0, none⟩ (.bool false)).setCell ⟨w.heap.size, 1, none⟩ (.slice none 0 0)).setCell ⟨w.heap.size, 2, none⟩ (.slice none 0 0)).setCell ⟨w.heap.size, 3, none⟩ (.slice none 0 0)).setCell ⟨w.heap.size + 1, 0, none⟩ (.int .i64 1)) →
        Bk w' w.heap.size 30 zNode ∧ Bk w' (w.heap.size + 1) 24 #[.int .i64 1] ∧ Below w.heap.size w w' := fun w' hw => by
      subst hw
      refine ⟨?_, ?_, ?_⟩
      · exact ((((X1.put 0 (.bool false)).put 1 (.slice none 0 0)).put 2 (.slice none 0 0)).put 3 (.slice none 0 0)).far (by simp) _
      · exact ((((X2.far (by simp) _).far (by simp) _).far (by simp) _).far (by simp) _).put 0 (.int .i64 1)
      · exact ((((Bb.setCell (p := ⟨w.heap.size, 0, none⟩) (Nat.le_refl _) _).setCell (p := ⟨w.heap.size, 1, none⟩) (Nat.le_refl _) _).setCell (p := ⟨w.heap.size, 2, none⟩) (Nat.le_refl _) _).setCell (p := ⟨w.heap.size, 3, none⟩) (Nat.le_refl _) _).setCell (p := ⟨w.heap.size + 1, 0, none⟩) (by simp) _
    have HSET := Lib.hid SET
    have HWA := Lib.hid hwa
    have HWB := Lib.hid hwb
    clear hn hA SET X1 X2 Ba Bb hwa hwb hsa hsb hp h256
    unfold zNode at HWA
    go_enter_defers Try.func12, Try.ntmps12
    go_upto_if 7 with fail
    rw [← HWA.out, ← HWB.out]
    go_wp2_with fail
    generalize hwf : (((((wb.setCell ⟨w.heap.size, 0, none⟩ (.bool false)).setCell ⟨w.heap.size, 1, none⟩ (.slice none 0 0)).setCell ⟨w.heap.size, 2, none⟩ (.slice none 0 0)).setCell ⟨w.heap.size, 3, none⟩ (.slice none 0 0)).setCell ⟨w.heap.size + 1, 0, none⟩ (.int .i64 1)) = wf
    obtain ⟨g1, g2, g3⟩ := HSET.out wf hwf.symm
    clear hwf
    have s0 : wf.cell? ⟨w.heap.size, 0, none⟩ = some (.bool false) := g1.cell 0
    have s1 : wf.cell? ⟨w.heap.size, 1, none⟩ = some (.slice none 0 0) := g1.cell 1
    have s2 : wf.cell? ⟨w.heap.size, 2, none⟩ = some (.slice none 0 0) := g1.cell 2
    have s3 : wf.cell? ⟨w.heap.size, 3, none⟩ = some (.slice none 0 0) := g1.cell 3
    have s4 : wf.cell? ⟨w.heap.size + 1, 0, none⟩ = some (.int .i64 1) := g2.cell 0
    simp [bodyPostD, Leaves, settle, results, Try.results12, go_sem, s0, s1, s2, s3, s4]
    exact HP.out _ _ g3 rfl
end Go.Proofs.Ytopkkolcimmedaa
