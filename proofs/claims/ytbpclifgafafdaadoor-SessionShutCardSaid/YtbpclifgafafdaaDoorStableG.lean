/- A region that draws its order, by facts that stay, where some operations are guarded. No condition. -/
import Derived.Test.YtbpclifgafafdaaDoorStable
namespace Go.Proofs.YtbpclifgafafdaaDoor
open Go.RowKit

section
variable {P : Program} {ops : Array Oper} {Q : Exit → Act → World → Prop}
/-- The same with guards: of an operation that is not wanted, the slot is undef. -/
def StepG (P : Program) (ops : Array Oper) (L : List (Option Nat)) (Q : Exit → Act → World → Prop) (T : (Nat → Value) → Act) (X : Nat → Nat) (F : Nat → Value → Value → World → Prop) (G : World → Prop) (i : Nat) (o : Oper) : Prop :=
  ∀ f w, G w → (∀ j, (o.after.any fun e => Region.binds .any e && e.on == j) = true → FactL L X F j f w) →
    ∀ K : Act → World → Prop, Hid (∀ v w', G w' → F i (slotV o.dst v) (updS f o.dst v (X i)) w' → (∀ j, j ≠ i → depS ops j i = false → F j (slotS f ((L[j]?).join)) (f (X j)) w → F j (slotS f ((L[j]?).join)) (f (X j)) w') → K ((T f).put o.dst v) w') →
      if Region.wanted o (yielded ops (T f).tmps) = true then Oper.wp P o (T f) w K Q else K ((T f).put o.dst undef) w
theorem wanted_val {o : Oper} {tmps : Array Value} {g d : Nat} {b c : Bool} (hg : o.guard = some (g, b)) (hd : dstOf ops g = some d) (hv : tmps[d]? = some (.bool c)) : Region.wanted o (yielded ops tmps) = (c == b) := by
  unfold dstOf at hd
  simp only [Region.wanted, hg, yielded, hd, Option.bind_some, hv]
  cases c <;> cases b <;> rfl
theorem StepA.guarded {L : List (Option Nat)} {T : (Nat → Value) → Act} {X : Nat → Nat} {F : Nat → Value → Value → World → Prop} {G : World → Prop} {i : Nat} {o : Oper} (hg : o.guard = none) (h : StepA P ops L Q T X F G i o) : StepG P ops L Q T X F G i o :=
  fun f w hG hF K hK => by
    rw [if_pos (by simp [Region.wanted, hg])]
    exact h f w hG hF K hK
def StepsG (P : Program) (ops : Array Oper) (L : List (Option Nat)) (Q : Exit → Act → World → Prop) (T : (Nat → Value) → Act) (X : Nat → Nat) (F : Nat → Value → Value → World → Prop) (G : World → Prop) : Nat → List Oper → Prop
  | _, [] => True
  | i, o :: os => StepG P ops L Q T X F G i o ∧ StepsG P ops L Q T X F G (i + 1) os
theorem StepsG.pick {L : List (Option Nat)} {T : (Nat → Value) → Act} {X : Nat → Nat} {F : Nat → Value → Value → World → Prop} {G : World → Prop} (os : List Oper) : ∀ (n i : Nat) (o : Oper), StepsG P ops L Q T X F G n os → os[i]? = some o → StepG P ops L Q T X F G (n + i) o := by
  induction os with
  | nil => intro n i o _ ho; simp at ho
  | cons p os ih =>
    intro n i o h ho
    cases i with
    | zero =>
      have ho : p = o := by simpa using ho
      subst ho
      exact h.1
    | succ i =>
      have := ih (n + 1) i o h.2 (by simpa using ho)
      rwa [show n + 1 + i = n + (i + 1) by omega] at this
theorem wp_region_guarded {rid : Nat} {a : Act} {w : World} {os : List Oper} (L : List (Option Nat)) (X : Nat → Nat) (F : Nat → Value → Value → World → Prop) (G : World → Prop) (hm : P.follows .mixedOrders = true) (hG : G w.drew) (hL : os.map (·.dst) = L) (hord : orderedS os.toArray = true) (hap : apartS os.toArray = true) (hax : auxS os.toArray X = true)
    (h : ∀ T : (Nat → Value) → Act, T = (fun f => putsS a f (L.filterMap id)) → StepsG P os.toArray L Q T X F G 0 os ∧ (∀ f w, G w → (∀ j, j < L.length → FactL L X F j f w) → Q .normal (T f) w)) : (Code.region rid os.toArray true).wp P Q a w := by
  have hd : dstsS os.toArray = L.filterMap id := by
    subst hL
    unfold dstsS
    rw [List.filterMap_map]
    rfl
  have hL' : os.toArray.toList.map (·.dst) = L := hL
  refine wp_region_go X F G hm hG hord hap hax fun T hT => ?_
  rw [hd] at hT
  obtain ⟨h1, h2⟩ := h T hT
  refine ⟨fun i hi => ?_, fun f w hG hF => h2 f w hG fun j hj => ?_⟩
  · intro o ho f w hG hF K hK
    have hos : os[i]? = some o := by simpa using ho
    have hs := StepsG.pick os 0 i _ h1 hos
    rw [Nat.zero_add] at hs
    exact hs f w hG (fun j hj => by rw [← fact_eq L hL']; exact hF j hj) K (Lib.hid fun v w' g1 g2 g3 => hK v w' g1 g2 fun j hj hd h => by
      rw [fact_eq L hL'] at h ⊢
      exact g3 j hj hd h)
  · rw [← fact_eq L hL']
    refine hF j ?_
    have : L.length = os.length := by rw [← hL, List.length_map]
    simp
    omega
end
end Go.Proofs.YtbpclifgafafdaaDoor
