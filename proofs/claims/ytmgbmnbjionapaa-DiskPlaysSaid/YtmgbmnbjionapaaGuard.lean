/- A disk's Guard. Condition: what is called ends by itself, or by the disk's panic. -/
import Derived.Test.YtmgbmnbjionapaaOct
import Derived.Test.YtmgbmnbjionapaaKp
import Derived.Tactics
import Derived.Tactics2
import Derived.Defers
import Derived.Recover
import Derived.Laws.Pointers
namespace Go.Proofs.Ytmgbmnbjionapaa
open Go.RowKit

theorem run_assert_power (t : TypeId) (v : Value) (w : World) : (Instr.typeAssert (.iface 97 v) t 97 true).run Try.prog w = .ok (.tuple #[v, .bool true]) w := by
  simp [Instr.typeAssert, Sem.run_bind, run_underlying Try.underlying97]
set_option maxRecDepth 100000 in
theorem catch_pan (b : Nat) (x : Bool) (older : List PanicEntry) (w : World) (hb : Bk w b 4 #[.bool x]) :
    CallsD Try.prog 51 #[.pointer (some ⟨b, 0, none⟩)] (.panicking ({ v := .iface 97 (.agg #[]), recovered := false } :: older)) w fun e u' w' =>
      e = .returned (.tuple #[]) ∧ u' = .panicking ({ v := .iface 97 (.agg #[]), recovered := true } :: older) ∧ w' = (w.alloc (.cells #[] 97)).setCell ⟨b, 0, none⟩ (.bool true) := by
  have hta := run_assert_power
  have hb2 := hb.alloc (.cells #[] 97)
  have hc2 := hb2.cell 0
  have hz2 := hb2.frozen 0
  clear hb hb2
  refine callsD_of_wpS Try.func51 rfl fun c₀ cs hu => ?_
  apply wpS_seq
  apply wpS_region
  simp only [Try.ntmps51, List.size_toArray, List.length_cons, List.length_nil, Nat.reduceAdd, Nat.reduceSub, Array.replicate_succ,
     Array.replicate_zero, List.push_toArray, List.append_toArray, List.nil_append, List.cons_append]
  simp [wpOpsS, go_sem, recoverD, hu, Exit.thenS]
  refine wpS_of_wp ?_
  go_wp2
  simp [bodyPostS, results, Try.results51, go_sem]
set_option maxRecDepth 100000 in
theorem catch_idle (b : Nat) (w : World) :
    CallsD Try.prog 51 #[.pointer (some ⟨b, 0, none⟩)] .returning w fun e u' w' =>
      e = .returned (.tuple #[]) ∧ u' = .returning ∧ w' = w := by
  refine callsD_of_wpS Try.func51 rfl fun c₀ cs hu => ?_
  apply wpS_seq
  apply wpS_region
  simp only [Try.ntmps51, List.size_toArray, List.length_cons, List.length_nil, Nat.reduceAdd, Nat.reduceSub, Array.replicate_succ,
     Array.replicate_zero, List.push_toArray, List.append_toArray, List.nil_append, List.cons_append]
  simp [wpOpsS, go_sem, recoverD, hu, Exit.thenS]
  refine wpS_of_wp ?_
  go_wp2
  cases c₀
  simp_all [bodyPostS, results, Try.results51]
/-- What Guard asks of what it calls: b0 is Guard's own variable. -/
def GPost (b0 : Nat) (R : Bool → World → Prop) (e : Ending) (w1 : World) : Prop :=
  Bk w1 b0 4 #[.bool false] ∧ ((e = .returned (.tuple #[]) ∧ R false (w1.setCell ⟨b0, 0, none⟩ (.bool false))) ∨
    (e = .panicked [{ v := .iface 97 (.agg #[]), recovered := false }] ∧ R true ((w1.alloc (.cells #[] 97)).setCell ⟨b0, 0, none⟩ (.bool true))))
/-- What Guard comes to. -/
def GEnd (R : Bool → World → Prop) (e : Ending) (w' : World) : Prop := ∃ b, e = .returned (.bool b) ∧ R b w'
set_option maxRecDepth 100000 in
set_option maxHeartbeats 1000000 in
theorem guard_any (k : FuncId) (caps : Array Value) (w : World) (R : Bool → World → Prop) (hc : ∀ w, (callFunc k caps).run Try.prog w = .ok (.enter k caps) w)
    (hf : Calls Try.prog k caps (w.alloc (.cells #[.bool false] 4)) (GPost w.heap.size R)) :
    Calls Try.prog 27 #[.func (.func k) #[] caps] w (GEnd R) := by
  have hmf : ∀ (fn : Fn) (first cap : Array Value) (w : World), (Instr.makeFunc fn first cap).run Try.prog w = .ok (.func fn first cap) w := fun _ _ _ _ => rfl
  have heq : ∀ w, (binOp BinOp.eql 1 (.func (.func k) #[] caps) .nilFunc).run Try.prog w = .ok (.bool false) w := fun _ => rfl
  have HF := Lib.hid hf
  clear hf
  go_enter_defers Try.func27, Try.ntmps27
  go_wp2_with fail
  refine HF.out.mono ?_
  rintro e w1 ⟨hb, ⟨rfl, hR⟩ | ⟨rfl, hR⟩⟩
  · have c0 := hb.cell 0
    have f0 := hb.frozen 0
    have HB := Lib.hid (hb.put 0 (.bool false))
    have HR := Lib.hid hR
    clear hb hR
    generalize w.heap.size = b0 at *
    go_wp2_with fail
    refine leaves_cons (f := 51) (args := #[.pointer (some ⟨b0, 0, none⟩)]) (by simp) (by simp [go_sem]) ?_
    refine (catch_idle b0 _).mono ?_
    rintro e u' w'' ⟨rfl, rfl, rfl⟩
    have c1 := HB.out.cell 0
    simp [Leaves, settle, results, Try.results27, go_sem, c1]
    exact ⟨false, rfl, HR.out⟩
  · have HB := Lib.hid hb
    have HR := Lib.hid hR
    have HB2 := Lib.hid ((hb.alloc (.cells #[] 97)).put 0 (.bool true))
    clear hb hR
    generalize w.heap.size = b0 at *
    refine leaves_cons (f := 51) (args := #[.pointer (some ⟨b0, 0, none⟩)]) (by simp) (by simp [go_sem]) ?_
    refine (catch_pan b0 false [] _ HB.out).mono ?_
    rintro e u' w'' ⟨rfl, rfl, rfl⟩
    have c1 := HB2.out.cell 0
    simp [Leaves, settle, results, Try.results27, go_sem, c1]
    exact ⟨true, rfl, HR.out⟩
end Go.Proofs.Ytmgbmnbjionapaa
