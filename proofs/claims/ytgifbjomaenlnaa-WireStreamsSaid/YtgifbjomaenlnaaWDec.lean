/- Decode. Condition: the bytes lie in memory. -/
import Derived.Test.YtgifbjomaenlnaaWBody
import Derived.Tactics
import Derived.Tactics2
import Derived.Defers
import Derived.Recover
namespace Go.Proofs.Ytgifbjomaenlnaa
open Go.RowKit

theorem run_assert_broken (t : TypeId) (v : Value) (w : World) : (Instr.typeAssert (.iface 58 v) t 58 true).run Try.prog w = .ok (.tuple #[v, .bool true]) w := by
  simp [Instr.typeAssert, Sem.run_bind, run_underlying Try.underlying58]
/-- The answer's two variables. -/
structure DecB (g : Nat) (cs : Array Value) (e : Nat) (w w' : World) : Prop where
  nd : Bk w' g 24 cs
  er : Bk w' (g + 1) 27 #[.int .i64 (e : Int)]
  bel : Below g w w'
theorem set_dec {g : Nat} {w0 w : World} (hb : Below g w0 w) (h : Bk w g 24 zMsg) (he : Bk w (g + 1) 27 #[.int .i64 0]) (v0 v1 v2 v3 v4 v5 v6 v7 v8 v9 : Value) (e : Nat) : ∀ wf, (((((((((((w.setCell ⟨g, 0, none⟩ v0).setCell ⟨g, 1, none⟩ v1).setCell ⟨g, 2, none⟩ v2).setCell ⟨g, 3, none⟩ v3).setCell ⟨g, 4, none⟩ v4).setCell ⟨g, 5, none⟩ v5).setCell ⟨g, 6, none⟩ v6).setCell ⟨g, 7, none⟩ v7).setCell ⟨g, 8, none⟩ v8).setCell ⟨g, 9, none⟩ v9)).setCell ⟨g + 1, 0, none⟩ (.int .i64 (e : Int)) = wf → DecB g #[v0, v1, v2, v3, v4, v5, v6, v7, v8, v9] e w0 wf ∧ ∀ (A : Option Addr) (xs : List Value), Seg w A xs → (∀ a, A = some a → a.block ≠ g ∧ a.block ≠ g + 1) → Seg wf A xs := by
  intro wf hwf
  obtain ⟨h1, h2, h3⟩ := set_msg (Nat.le_refl g) hb h v0 v1 v2 v3 v4 v5 v6 v7 v8 v9 _ rfl
  subst hwf
  refine ⟨⟨h2.far (by simp) _, (bk_kept he (by omega) h3).put 0 _, h1.setCell (p := ⟨g + 1, 0, none⟩) (by simp) _⟩, fun A xs hs ha => (hs.kept h3 (fun a e => (ha a e).1)).kept (Kept1.set _ (g + 1) 0 _) (fun a e => (ha a e).2)⟩
set_option maxRecDepth 100000 in
theorem dcatch_pan (g : Nat) (older : List PanicEntry) (w : World) (hn : Bk w g 24 zMsg) (he : Bk w (g + 1) 27 #[.int .i64 0]) :
    CallsD Try.prog 25 #[.pointer (some ⟨g, 0, none⟩), .pointer (some ⟨g + 1, 0, none⟩)] (.panicking ({ v := .iface 58 (.agg #[]), recovered := false } :: older)) w fun e u' w' =>
      e = .returned (.tuple #[]) ∧ u' = .panicking ({ v := .iface 58 (.agg #[]), recovered := true } :: older) ∧ DecB g zMsg 3 w w' := by
  have hta := run_assert_broken
  obtain ⟨wx, hwx⟩ : ∃ wx, wx = w.alloc (.cells #[] 58) := ⟨_, rfl⟩
  have hn2 := hn.alloc (.cells #[] 58)
  have he2 := he.alloc (.cells #[] 58)
  have hb2 : Below g w wx := by rw [hwx]; exact (Below.refl g w).alloc (by have := hn.lt; omega) _
  rw [← hwx] at hn2 he2
  have c0 : wx.cell? ⟨g, 0, none⟩ = some (.int .i64 0) := hn2.cell 0
  have c1 : wx.cell? ⟨g, 1, none⟩ = some (.int .i64 0) := hn2.cell 1
  have c2 : wx.cell? ⟨g, 2, none⟩ = some (.int .i64 0) := hn2.cell 2
  have c3 : wx.cell? ⟨g, 3, none⟩ = some (.int .i64 0) := hn2.cell 3
  have c4 : wx.cell? ⟨g, 4, none⟩ = some (.int .i64 0) := hn2.cell 4
  have c5 : wx.cell? ⟨g, 5, none⟩ = some (.int .i64 0) := hn2.cell 5
  have c6 : wx.cell? ⟨g, 6, none⟩ = some (.int .i64 0) := hn2.cell 6
  have c7 : wx.cell? ⟨g, 7, none⟩ = some (.slice none 0 0) := hn2.cell 7
  have c8 : wx.cell? ⟨g, 8, none⟩ = some (.bool false) := hn2.cell 8
  have c9 : wx.cell? ⟨g, 9, none⟩ = some (.int .i64 0) := hn2.cell 9
  have c10 : wx.cell? ⟨g + 1, 0, none⟩ = some (.int .i64 0) := he2.cell 0
  have z0 := hn2.frozen 0
  have z1 := hn2.frozen 1
  have z2 := hn2.frozen 2
  have z3 := hn2.frozen 3
  have z4 := hn2.frozen 4
  have z5 := hn2.frozen 5
  have z6 := hn2.frozen 6
  have z7 := hn2.frozen 7
  have z8 := hn2.frozen 8
  have z9 := hn2.frozen 9
  have z10 := he2.frozen 0
  have HZ := Lib.hid (set_dec hb2 hn2 he2 (.int .i64 0) (.int .i64 0) (.int .i64 0) (.int .i64 0) (.int .i64 0) (.int .i64 0) (.int .i64 0) (.slice none 0 0) (.bool false) (.int .i64 0) 3)
  have HWX := Lib.hid hwx
  clear hn he hn2 he2 hwx hb2
  refine callsD_of_wpS Try.func25 rfl fun c₀ cs hu => ?_
  apply wpS_seq
  apply wpS_region
  simp only [Try.ntmps25, List.size_toArray, List.length_cons, List.length_nil, Nat.reduceAdd, Nat.reduceSub, Array.replicate_succ,
     Array.replicate_zero, List.push_toArray, List.append_toArray, List.nil_append, List.cons_append]
  simp [wpOpsS, go_sem, recoverD, hu, Exit.thenS]
  refine wpS_of_wp ?_
  go_upto_region 7 with fail
  rw [← HWX.out]
  go_wp2
  simp [bodyPostS, results, Try.results25, go_sem]
  exact (HZ.out _ rfl).1
set_option maxRecDepth 100000 in
theorem dcatch_idle (g : Nat) (w : World) :
    CallsD Try.prog 25 #[.pointer (some ⟨g, 0, none⟩), .pointer (some ⟨g + 1, 0, none⟩)] .returning w fun e u' w' =>
      e = .returned (.tuple #[]) ∧ u' = .returning ∧ w' = w := by
  refine callsD_of_wpS Try.func25 rfl fun c₀ cs hu => ?_
  apply wpS_seq
  apply wpS_region
  simp only [Try.ntmps25, List.size_toArray, List.length_cons, List.length_nil, Nat.reduceAdd, Nat.reduceSub, Array.replicate_succ,
     Array.replicate_zero, List.push_toArray, List.append_toArray, List.nil_append, List.cons_append]
  simp [wpOpsS, go_sem, recoverD, hu, Exit.thenS]
  refine wpS_of_wp ?_
  go_wp2
  cases c₀
  simp_all [bodyPostS, results, Try.results25]
/-- What Decode comes to. -/
def DecPost (w0 : World) (l : List Nat) (e : Ending) (w' : World) : Prop :=
  Below w0.heap.size w0 w' ∧ if l.length ≤ 900 then (match bodyP l with
    | none => e = .returned (.tuple #[.agg zMsg, .int .i64 3])
    | some m => ∃ A c, e = .returned (.tuple #[.agg (msgC m A m.ents.length c), .int .i64 0]) ∧ Mg w' m A m.ents.length c ∧ ∀ a, A = some a → w0.heap.size ≤ a.block)
    else e = .returned (.tuple #[.agg zMsg, .int .i64 2])
set_option maxRecDepth 100000 in
set_option maxHeartbeats 2000000 in
theorem dec_any (A : Option Addr) (n c : Nat) (l : List Nat) (hn : n = l.length) (hnc : n ≤ c) (hz : n ≤ 140737488355328) (hl : ∀ x ∈ l, x < 256) (w : World) (hA : Seg w A (u8s l)) (hAb : ∀ a, A = some a → a.block < w.heap.size) :
    Calls Try.prog 13 #[.slice A n c] w (DecPost w l) := by
  have hmf : ∀ (fn : Fn) (first cap : Array Value) (w : World), (Instr.makeFunc fn first cap).run Try.prog w = .ok (.func fn first cap) w := fun _ _ _ _ => rfl
  obtain ⟨wa, hwa⟩ : ∃ wa, wa = w.alloc (.cells zMsg 24) := ⟨_, rfl⟩
  obtain ⟨wb, hwb⟩ : ∃ wb, wb = wa.alloc (.cells #[.int .i64 0] 27) := ⟨_, rfl⟩
  have hsa : wa.heap.size = w.heap.size + 1 := by rw [hwa]; simp
  have hsb : wb.heap.size = w.heap.size + 2 := by rw [hwb]; simp [hsa]
  have Ba : Below w.heap.size w wa := by rw [hwa]; exact (Below.refl _ _).alloc (Nat.le_refl _) _
  have Bb : Below w.heap.size w wb := by rw [hwb]; exact Ba.alloc (by omega) _
  have X1 : Bk wb w.heap.size 24 zMsg := by rw [hwb, hwa]; exact (Bk.new w _ _).alloc _
  have X2 : Bk wb (w.heap.size + 1) 27 #[.int .i64 0] := by rw [hwb, ← hsa]; exact Bk.new wa _ _
  by_cases h9 : n ≤ 900
  · have i1 : ¬ (900 : Int) < (n : Int) := by omega
    have HN := Lib.hid (rbody_any A n c l hn hnc h9 hl wb (hA.bel Bb) (fun a e => by have := hAb a e; omega))
    have HY1 := Lib.hid X1
    have HY2 := Lib.hid X2
    have HBb := Lib.hid Bb
    have HWA := Lib.hid hwa
    have HWB := Lib.hid hwb
    have HSB := Lib.hid hsb
    have H9 := Lib.hid (show l.length ≤ 900 by omega)
    clear hn hA hAb hl Bb Ba X1 X2 hwa hwb hsa hsb
    unfold zMsg at HWA
    go_enter_defers Try.func13, Try.ntmps13
    go_upto_if 2 with fail
    rw [← HWA.out, ← HWB.out]
    go_wp2_with fail
    refine HN.out.mono ?_
    rintro e w1 ⟨hb1, hm⟩
    have Y1 : Bk w1 w.heap.size 24 zMsg := HY1.out.bel hb1
    have Y2 : Bk w1 (w.heap.size + 1) 27 #[.int .i64 0] := HY2.out.bel hb1
    have hb1 : Below w.heap.size w w1 := HBb.out.trans (hb1.mono (by have := HSB.out; omega))
    have HB1 := Lib.hid hb1
    have HY1 := Lib.hid Y1
    have HY2 := Lib.hid Y2
    cases hnp : bodyP l with
    | none =>
      rw [hnp] at hm
      subst hm
      have HP := Lib.hid (show ∀ e w', Below w.heap.size w w' → e = .returned (.tuple #[.agg zMsg, .int .i64 3]) → DecPost w l e w' from fun e w' hb he => ⟨hb, by rw [if_pos H9.out, hnp]; exact he⟩)
      clear hb1 Y1 Y2 hnp
      generalize w.heap.size = g at *
      refine leaves_cons (f := 25) (args := #[.pointer (some ⟨g, 0, none⟩), .pointer (some ⟨g + 1, 0, none⟩)]) (by simp) (by simp [go_sem]) ?_
      refine (dcatch_pan g [] _ HY1.out HY2.out).mono ?_
      rintro e u' w'' ⟨rfl, rfl, hz⟩
      have s0 : w''.cell? ⟨g, 0, none⟩ = some (.int .i64 0) := hz.nd.cell 0
      have s1 : w''.cell? ⟨g, 1, none⟩ = some (.int .i64 0) := hz.nd.cell 1
      have s2 : w''.cell? ⟨g, 2, none⟩ = some (.int .i64 0) := hz.nd.cell 2
      have s3 : w''.cell? ⟨g, 3, none⟩ = some (.int .i64 0) := hz.nd.cell 3
      have s4 : w''.cell? ⟨g, 4, none⟩ = some (.int .i64 0) := hz.nd.cell 4
      have s5 : w''.cell? ⟨g, 5, none⟩ = some (.int .i64 0) := hz.nd.cell 5
      have s6 : w''.cell? ⟨g, 6, none⟩ = some (.int .i64 0) := hz.nd.cell 6
      have s7 : w''.cell? ⟨g, 7, none⟩ = some (.slice none 0 0) := hz.nd.cell 7
      have s8 : w''.cell? ⟨g, 8, none⟩ = some (.bool false) := hz.nd.cell 8
      have s9 : w''.cell? ⟨g, 9, none⟩ = some (.int .i64 0) := hz.nd.cell 9
      have s10 : w''.cell? ⟨g + 1, 0, none⟩ = some (.int .i64 3) := hz.er.cell 0
      have HZ := Lib.hid (HB1.out.trans hz.bel)
      clear hz
      simp [Leaves, settle, results, Try.results13, go_sem, s0, s1, s2, s3, s4, s5, s6, s7, s8, s9, s10]
      exact HP.out _ _ HZ.out rfl
    | some m =>
      rw [hnp] at hm
      obtain ⟨A1, c1, rfl, hmg, hfr⟩ := hm
      have HFR0 := Lib.hid (show ∀ a, A1 = some a → w.heap.size ≤ a.block from fun a e => by have := hfr a e; have := HSB.out; omega)
      have HP := Lib.hid (show ∀ e w', Below w.heap.size w w' → e = .returned (.tuple #[.agg (msgC m A1 m.ents.length c1), .int .i64 0]) → Mg w' m A1 m.ents.length c1 → DecPost w l e w' from fun e w' hb he hn => ⟨hb, by rw [if_pos H9.out, hnp]; exact ⟨A1, c1, he, hn, HFR0.out⟩⟩)
      have HSET := Lib.hid (set_dec hb1 Y1 Y2 (.int .i64 m.kind) (.int .i64 m.n0) (.int .i64 m.n1) (.int .i64 m.n2) (.int .i64 m.n3) (.int .i64 m.n4) (.int .i64 m.n5) (.slice A1 m.ents.length c1) (.bool m.ok) (.int .i64 m.n6) 0)
      have HMG := Lib.hid (show ∀ w', Seg w' A1 (entV m.ents) → Mg w' m A1 m.ents.length c1 from fun w' hs => ⟨hmg.en, hs, hmg.nc, hmg.bn, hmg.bk, hmg.bm, hmg.be⟩)
      have HSG := Lib.hid hmg.es
      have HFR := Lib.hid hfr
      have u0 : w1.cell? ⟨w.heap.size, 0, none⟩ = some (.int .i64 0) := Y1.cell 0
      have u1 : w1.cell? ⟨w.heap.size, 1, none⟩ = some (.int .i64 0) := Y1.cell 1
      have u2 : w1.cell? ⟨w.heap.size, 2, none⟩ = some (.int .i64 0) := Y1.cell 2
      have u3 : w1.cell? ⟨w.heap.size, 3, none⟩ = some (.int .i64 0) := Y1.cell 3
      have u4 : w1.cell? ⟨w.heap.size, 4, none⟩ = some (.int .i64 0) := Y1.cell 4
      have u5 : w1.cell? ⟨w.heap.size, 5, none⟩ = some (.int .i64 0) := Y1.cell 5
      have u6 : w1.cell? ⟨w.heap.size, 6, none⟩ = some (.int .i64 0) := Y1.cell 6
      have u7 : w1.cell? ⟨w.heap.size, 7, none⟩ = some (.slice none 0 0) := Y1.cell 7
      have u8 : w1.cell? ⟨w.heap.size, 8, none⟩ = some (.bool false) := Y1.cell 8
      have u9 : w1.cell? ⟨w.heap.size, 9, none⟩ = some (.int .i64 0) := Y1.cell 9
      have u10 : w1.cell? ⟨w.heap.size + 1, 0, none⟩ = some (.int .i64 0) := Y2.cell 0
      have z0 := Y1.frozen 0
      have z1 := Y1.frozen 1
      have z2 := Y1.frozen 2
      have z3 := Y1.frozen 3
      have z4 := Y1.frozen 4
      have z5 := Y1.frozen 5
      have z6 := Y1.frozen 6
      have z7 := Y1.frozen 7
      have z8 := Y1.frozen 8
      have z9 := Y1.frozen 9
      have z10 := Y2.frozen 0
      clear Y1 Y2 hb1 hmg hnp hfr
      unfold msgC
      go_wp2_with fail
      generalize hwf : (((((((((((w1.setCell ⟨w.heap.size, 0, none⟩ (.int .i64 m.kind)).setCell ⟨w.heap.size, 1, none⟩ (.int .i64 m.n0)).setCell ⟨w.heap.size, 2, none⟩ (.int .i64 m.n1)).setCell ⟨w.heap.size, 3, none⟩ (.int .i64 m.n2)).setCell ⟨w.heap.size, 4, none⟩ (.int .i64 m.n3)).setCell ⟨w.heap.size, 5, none⟩ (.int .i64 m.n4)).setCell ⟨w.heap.size, 6, none⟩ (.int .i64 m.n5)).setCell ⟨w.heap.size, 7, none⟩ (.slice A1 m.ents.length c1)).setCell ⟨w.heap.size, 8, none⟩ (.bool m.ok)).setCell ⟨w.heap.size, 9, none⟩ (.int .i64 m.n6))).setCell ⟨w.heap.size + 1, 0, none⟩ (.int .i64 0) = wf
      obtain ⟨g1, g2⟩ := HSET.out wf hwf
      have HG4 := Lib.hid (g2 A1 _ HSG.out (fun a e => by have := HFR.out a e; have := HSB.out; omega))
      have HG3 := Lib.hid g1.bel
      clear hwf u0 u1 u2 u3 u4 u5 u6 u7 u8 u9 u10 z0 z1 z2 z3 z4 z5 z6 z7 z8 z9 z10 HSET HY1 HY2 g2
      have s0 : wf.cell? ⟨w.heap.size, 0, none⟩ = some (.int .i64 m.kind) := g1.nd.cell 0
      have s1 : wf.cell? ⟨w.heap.size, 1, none⟩ = some (.int .i64 m.n0) := g1.nd.cell 1
      have s2 : wf.cell? ⟨w.heap.size, 2, none⟩ = some (.int .i64 m.n1) := g1.nd.cell 2
      have s3 : wf.cell? ⟨w.heap.size, 3, none⟩ = some (.int .i64 m.n2) := g1.nd.cell 3
      have s4 : wf.cell? ⟨w.heap.size, 4, none⟩ = some (.int .i64 m.n3) := g1.nd.cell 4
      have s5 : wf.cell? ⟨w.heap.size, 5, none⟩ = some (.int .i64 m.n4) := g1.nd.cell 5
      have s6 : wf.cell? ⟨w.heap.size, 6, none⟩ = some (.int .i64 m.n5) := g1.nd.cell 6
      have s7 : wf.cell? ⟨w.heap.size, 7, none⟩ = some (.slice A1 m.ents.length c1) := g1.nd.cell 7
      have s8 : wf.cell? ⟨w.heap.size, 8, none⟩ = some (.bool m.ok) := g1.nd.cell 8
      have s9 : wf.cell? ⟨w.heap.size, 9, none⟩ = some (.int .i64 m.n6) := g1.nd.cell 9
      have s10 : wf.cell? ⟨w.heap.size + 1, 0, none⟩ = some (.int .i64 0) := g1.er.cell 0
      clear g1
      refine leaves_cons (f := 25) (args := #[.pointer (some ⟨w.heap.size, 0, none⟩), .pointer (some ⟨w.heap.size + 1, 0, none⟩)]) (by simp) (by simp [go_sem]) ?_
      refine (dcatch_idle w.heap.size _).mono ?_
      rintro e u' w'' ⟨rfl, rfl, rfl⟩
      simp [Leaves, settle, results, Try.results13, go_sem, s0, s1, s2, s3, s4, s5, s6, s7, s8, s9, s10]
      exact HP.out _ _ HG3.out rfl (HMG.out _ HG4.out)
  · have hp : ∀ e w', Below w.heap.size w w' → e = .returned (.tuple #[.agg zMsg, .int .i64 2]) → DecPost w l e w' := fun e w' hb he => ⟨hb, by rw [if_neg (by omega)]; exact he⟩
    have HP := Lib.hid hp
    have i1 : (900 : Int) < (n : Int) := by omega
    have u0 : wb.cell? ⟨w.heap.size, 0, none⟩ = some (.int .i64 0) := X1.cell 0
    have u1 : wb.cell? ⟨w.heap.size, 1, none⟩ = some (.int .i64 0) := X1.cell 1
    have u2 : wb.cell? ⟨w.heap.size, 2, none⟩ = some (.int .i64 0) := X1.cell 2
    have u3 : wb.cell? ⟨w.heap.size, 3, none⟩ = some (.int .i64 0) := X1.cell 3
    have u4 : wb.cell? ⟨w.heap.size, 4, none⟩ = some (.int .i64 0) := X1.cell 4
    have u5 : wb.cell? ⟨w.heap.size, 5, none⟩ = some (.int .i64 0) := X1.cell 5
    have u6 : wb.cell? ⟨w.heap.size, 6, none⟩ = some (.int .i64 0) := X1.cell 6
    have u7 : wb.cell? ⟨w.heap.size, 7, none⟩ = some (.slice none 0 0) := X1.cell 7
    have u8 : wb.cell? ⟨w.heap.size, 8, none⟩ = some (.bool false) := X1.cell 8
    have u9 : wb.cell? ⟨w.heap.size, 9, none⟩ = some (.int .i64 0) := X1.cell 9
    have u10 : wb.cell? ⟨w.heap.size + 1, 0, none⟩ = some (.int .i64 0) := X2.cell 0
    have z0 := X1.frozen 0
    have z1 := X1.frozen 1
    have z2 := X1.frozen 2
    have z3 := X1.frozen 3
    have z4 := X1.frozen 4
    have z5 := X1.frozen 5
    have z6 := X1.frozen 6
    have z7 := X1.frozen 7
    have z8 := X1.frozen 8
    have z9 := X1.frozen 9
    have z10 := X2.frozen 0
    have HSET := Lib.hid (set_dec Bb X1 X2 (.int .i64 0) (.int .i64 0) (.int .i64 0) (.int .i64 0) (.int .i64 0) (.int .i64 0) (.int .i64 0) (.slice none 0 0) (.bool false) (.int .i64 0) 2)
    have HWA := Lib.hid hwa
    have HWB := Lib.hid hwb
    clear hn hA X1 X2 Ba Bb hwa hwb hsa hsb hp h9
    unfold zMsg at HWA
    go_enter_defers Try.func13, Try.ntmps13
    go_upto_region 2 with fail
    rw [← HWA.out, ← HWB.out]
    go_wp2_with fail
    generalize hwf : (((((((((((wb.setCell ⟨w.heap.size, 0, none⟩ (.int .i64 0)).setCell ⟨w.heap.size, 1, none⟩ (.int .i64 0)).setCell ⟨w.heap.size, 2, none⟩ (.int .i64 0)).setCell ⟨w.heap.size, 3, none⟩ (.int .i64 0)).setCell ⟨w.heap.size, 4, none⟩ (.int .i64 0)).setCell ⟨w.heap.size, 5, none⟩ (.int .i64 0)).setCell ⟨w.heap.size, 6, none⟩ (.int .i64 0)).setCell ⟨w.heap.size, 7, none⟩ (.slice none 0 0)).setCell ⟨w.heap.size, 8, none⟩ (.bool false)).setCell ⟨w.heap.size, 9, none⟩ (.int .i64 0))).setCell ⟨w.heap.size + 1, 0, none⟩ (.int .i64 2) = wf
    obtain ⟨g1, _⟩ := HSET.out wf hwf
    clear hwf
    have s0 : wf.cell? ⟨w.heap.size, 0, none⟩ = some (.int .i64 0) := g1.nd.cell 0
    have s1 : wf.cell? ⟨w.heap.size, 1, none⟩ = some (.int .i64 0) := g1.nd.cell 1
    have s2 : wf.cell? ⟨w.heap.size, 2, none⟩ = some (.int .i64 0) := g1.nd.cell 2
    have s3 : wf.cell? ⟨w.heap.size, 3, none⟩ = some (.int .i64 0) := g1.nd.cell 3
    have s4 : wf.cell? ⟨w.heap.size, 4, none⟩ = some (.int .i64 0) := g1.nd.cell 4
    have s5 : wf.cell? ⟨w.heap.size, 5, none⟩ = some (.int .i64 0) := g1.nd.cell 5
    have s6 : wf.cell? ⟨w.heap.size, 6, none⟩ = some (.int .i64 0) := g1.nd.cell 6
    have s7 : wf.cell? ⟨w.heap.size, 7, none⟩ = some (.slice none 0 0) := g1.nd.cell 7
    have s8 : wf.cell? ⟨w.heap.size, 8, none⟩ = some (.bool false) := g1.nd.cell 8
    have s9 : wf.cell? ⟨w.heap.size, 9, none⟩ = some (.int .i64 0) := g1.nd.cell 9
    have s10 : wf.cell? ⟨w.heap.size + 1, 0, none⟩ = some (.int .i64 2) := g1.er.cell 0
    simp [bodyPostD, Leaves, results, Try.results13, go_sem, s0, s1, s2, s3, s4, s5, s6, s7, s8, s9, s10]
    exact HP.out _ _ g1.bel rfl
end Go.Proofs.Ytgifbjomaenlnaa
