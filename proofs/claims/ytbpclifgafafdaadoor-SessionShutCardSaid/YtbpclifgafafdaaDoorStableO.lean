/- A region that draws its order and reads a slot that it writes later: until then the slot holds what it held ahead of the region. No condition. -/
import Derived.Test.YtbpclifgafafdaaDoorStable
namespace Go.Proofs.YtbpclifgafafdaaDoor
open Go.RowKit

section
variable {P : Program} {ops : Array Oper} {Q : Exit → Act → World → Prop}
/-- Does operation j wait for operation i, by a few edges, or is it i? -/
def reachS (ops : Array Oper) : Nat → Nat → Nat → Bool
  | 0, j, i => j == i
  | n + 1, j, i => j == i || (match ops[j]? with
    | some o => o.after.any fun e => Region.binds .any e && reachS ops n e.on i
    | none => false)
/-- Is slot d written by i, or by an operation that waits for it? -/
def lateS (ops : Array Oper) (i d : Nat) : Bool := (List.range ops.size).any fun j => dstOf ops j == some d && reachS ops 6 j i
theorem reach_listed {listed : Array Bool} (hsz : listed.size = ops.size) (hcl : ∀ j o, ops[j]? = some o → listed.getD j true = true → ∀ e ∈ o.after, Region.binds .any e = true → listed.getD e.on false = true) :
    ∀ (n j i : Nat), j < ops.size → listed.getD j false = true → reachS ops n j i = true → listed.getD i false = true
  | 0, j, i, _, hl, h => by
    have : j = i := by simpa [reachS] using h
    rw [← this]; exact hl
  | n + 1, j, i, hj, hl, h => by
    unfold reachS at h
    rcases Bool.or_eq_true_iff.1 h with h | h
    · have : j = i := by simpa using h
      rw [← this]; exact hl
    · have hoj : ops[j]? = some ops[j] := Array.getElem?_eq_getElem hj
      rw [hoj] at h
      simp only at h
      rw [Array.any_eq_true'] at h
      obtain ⟨e, he, heb⟩ := h
      rw [Bool.and_eq_true] at heb
      have hjl : j < listed.size := by rw [hsz]; exact hj
      have h2 := hcl j _ hoj (by simp [hjl] at hl ⊢; exact hl) e he heb.1
      have hel : e.on < listed.size := by
        rcases Nat.lt_or_ge e.on listed.size with h3 | h3
        · exact h3
        · simp [Array.getElem?_eq_none h3] at h2
      exact reach_listed hsz hcl n e.on i (by rw [← hsz]; exact hel) h2 heb.2
/-- As StepS; the slots that are written later hold what they held. -/
def StepSO (P : Program) (ops : Array Oper) (Q : Exit → Act → World → Prop) (T : (Nat → Value) → Act) (X : Nat → Nat) (F : Nat → Value → Value → World → Prop) (G : World → Prop) (f0 : Nat → Value) (i : Nat) : Prop :=
  ∀ o, ops[i]? = some o → ∀ f w, G w → (∀ d, lateS ops i d = true → f d = f0 d) → (∀ j, (o.after.any fun e => Region.binds .any e && e.on == j) = true → FactS ops X F j f w) →
    ∀ K : Act → World → Prop, (∀ v w', G w' → F i (slotV o.dst v) (updS f o.dst v (X i)) w' → (∀ j, j ≠ i → depS ops j i = false → FactS ops X F j f w → FactS ops X F j f w') → K ((T f).put o.dst v) w') →
      if Region.wanted o (yielded ops (T f).tmps) = true then Oper.wp P o (T f) w K Q else K ((T f).put o.dst undef) w
theorem wpAny_old (f0 : Nat → Value) (T : (Nat → Value) → Act) (X : Nat → Nat) (F : Nat → Value → Value → World → Prop) (G : World → Prop) (hord : orderedS ops = true) (hap : apartS ops = true) (hax : auxS ops X = true)
    (hput : ∀ (i : Nat) (o : Oper), ops[i]? = some o → ∀ f v, (T f).put o.dst v = T (updS f o.dst v))
    (step : ∀ i, i < ops.size → StepSO P ops Q T X F G f0 i) (fin : ∀ f w, G w → (∀ j, j < ops.size → FactS ops X F j f w) → Q .normal (T f) w) :
    ∀ (fuel : Nat) (listed : Array Bool) (f : Nat → Value) (w : World), (∀ j d, j < ops.size → dstOf ops j = some d → listed.getD j true = false → f d = f0 d) → G w → (∀ j, j < ops.size → listed.getD j true = true → FactS ops X F j f w) → listed.size = ops.size → (∀ j o, ops[j]? = some o → listed.getD j true = true → ∀ e ∈ o.after, Region.binds .any e = true → listed.getD e.on false = true) →
      ((List.range ops.size).filter fun i => !listed.getD i true).length ≤ fuel → wpAny P .any ops Q fuel listed (T f) w := by
  have done : ∀ (listed : Array Bool) (f : Nat → Value) (w : World), G w → (∀ j, j < ops.size → listed.getD j true = true → FactS ops X F j f w) → listed.size = ops.size → Region.ready .any ops listed = [] → Q .normal (T f) w := by
    intro listed f w hG hF hsz hr
    refine fin f w hG fun j => ?_
    induction j using Nat.strongRecOn with
    | _ j ih =>
      intro hj
      by_cases hl : listed.getD j true = true
      · exact hF j hj hl
      · exfalso
        -- the least one that is not listed is ready
        have ex : ∃ m, m < ops.size ∧ listed.getD m true = false ∧ ∀ i, i < m → listed.getD i true = true := by
          have : ∀ n, n < ops.size → listed.getD n true = false → ∃ m, m < ops.size ∧ listed.getD m true = false ∧ ∀ i, i < m → listed.getD i true = true := by
            intro n
            induction n using Nat.strongRecOn with
            | _ n ihn =>
              intro hn hnl
              by_cases hall : ∀ i, i < n → listed.getD i true = true
              · exact ⟨n, hn, hnl, hall⟩
              · obtain ⟨i, hi⟩ := Classical.not_forall.1 hall
                obtain ⟨hi1, hi2⟩ := Classical.not_imp.1 hi
                exact ihn i hi1 (by omega) (by simpa using hi2)
          exact this j hj (by simpa using hl)
        obtain ⟨m, hm, hml, hma⟩ := ex
        have hmem : m ∈ Region.ready .any ops listed := by
          unfold Region.ready
          rw [List.mem_filter]
          refine ⟨List.mem_range.2 hm, ?_⟩
          have hom : ops[m]? = some ops[m] := Array.getElem?_eq_getElem hm
          rw [hml, hom]
          simp only [Bool.not_false, Bool.true_and, Option.map_some, Option.getD_some]
          rw [Array.all_eq_true']
          intro e he
          unfold orderedS at hord
          have h1 := List.all_eq_true.1 hord m (List.mem_range.2 hm)
          rw [hom] at h1
          simp only [Option.map_some, Option.getD_some] at h1
          have h2 := Array.all_eq_true'.1 h1 e he
          rcases Bool.or_eq_true_iff.1 h2 with h2 | h2
          · rw [h2, Bool.true_or]
          · have hlt : e.on < m := by simpa using h2
            have := hma e.on hlt
            have hs : e.on < listed.size := by omega
            simp [hs] at this ⊢
            rw [this]; simp
        rw [hr] at hmem
        cases hmem
  intro fuel
  induction fuel with
  | zero =>
    intro listed f w hU hG hF hsz hcl hc
    have hr : Region.ready .any ops listed = [] := by
      unfold Region.ready
      rw [List.filter_eq_nil_iff]
      intro i hi hh
      have h0 : ((List.range ops.size).filter fun i => !listed.getD i true) = [] := List.eq_nil_of_length_eq_zero (by omega)
      rw [List.filter_eq_nil_iff] at h0
      have := h0 i hi
      rw [Bool.and_eq_true] at hh
      exact this hh.1
    exact ⟨hr, done listed f w hG hF hsz hr⟩
  | succ fuel ih =>
    intro listed f w hU hG hF hsz hcl hc
    refine ⟨done listed f w hG hF hsz, fun i hi => ?_⟩
    unfold Region.ready at hi
    rw [List.mem_filter] at hi
    obtain ⟨hir, hi2⟩ := hi
    have hin := List.mem_range.1 hir
    have hoi : ops[i]? = some ops[i] := Array.getElem?_eq_getElem hin
    rw [hoi, Bool.and_eq_true] at hi2
    obtain ⟨hun, haft⟩ := hi2
    simp only [Option.map_some, Option.getD_some] at haft
    have hnd : ∀ j, j < ops.size → listed.getD j true = true → depS ops j i = false := fun j hj hlj => by
      cases hd : depS ops j i with
      | false => rfl
      | true =>
        exfalso
        have hoj : ops[j]? = some ops[j] := Array.getElem?_eq_getElem hj
        unfold depS at hd
        rw [hoj] at hd
        simp only [Option.map_some, Option.getD_some] at hd
        rw [Array.any_eq_true'] at hd
        obtain ⟨e, he, heb⟩ := hd
        rw [Bool.and_eq_true] at heb
        have h2 := hcl j _ hoj hlj e he heb.1
        have hei : e.on = i := by simpa using heb.2
        rw [hei] at h2
        have hil : i < listed.size := by rw [hsz]; exact hin
        have h3 : listed[i]? = some listed[i] := Array.getElem?_eq_getElem hil
        simp [h3] at h2 hun
        rw [h2] at hun
        cases hun
    have hs := step i hin ops[i] hoi f w hG (fun d hd => by
      unfold lateS at hd
      rw [List.any_eq_true] at hd
      obtain ⟨j, hj, hjj⟩ := hd
      rw [Bool.and_eq_true] at hjj
      have hjs := List.mem_range.1 hj
      refine hU j d hjs (by simpa using hjj.1) ?_
      cases hlj : listed.getD j true with
      | false => rfl
      | true =>
        exfalso
        have hjl : j < listed.size := by rw [hsz]; exact hjs
        have hil : i < listed.size := by rw [hsz]; exact hin
        have h1 := reach_listed hsz hcl 6 j i hjs (by simpa [hjl] using hlj) hjj.2
        simp [hil] at h1 hun
        rw [h1] at hun
        cases hun) (fun j hj => by
      rw [Array.any_eq_true'] at hj
      obtain ⟨e, he, heb⟩ := hj
      rw [Bool.and_eq_true] at heb
      have h2 := Array.all_eq_true'.1 haft e he
      rw [heb.1] at h2
      simp only [Bool.not_true, Bool.false_or] at h2
      have hej : e.on = j := by simpa using heb.2
      subst hej
      have hlt : e.on < listed.size := by
        rcases Nat.lt_or_ge e.on listed.size with h | h
        · exact h
        · simp [Array.getElem?_eq_none h] at h2
      refine hF e.on (by omega) ?_
      simp [hlt] at h2 ⊢
      exact h2)
      (wpAny P .any ops Q fuel (listed.setIfInBounds i true)) (fun v w' hG' hFi hst => by
        rw [hput i ops[i] hoi]
        have hdi : dstOf ops i = ops[i].dst := by unfold dstOf; rw [hoi]; rfl
        rw [← hdi]
        refine ih _ _ _ (fun j d hj hd hl => ?_) hG' (fun j hj hl => ?_) (by simpa using hsz) (fun j o hjo hl e he hbe => ?_) ?_
        · by_cases hji : j = i
          · subst hji
            have hil : j < listed.size := by rw [hsz]; exact hin
            simp [hil] at hl
          · have hlj : listed.getD j true = false := by
              simpa [Array.getElem?_setIfInBounds_ne (Ne.symm hji)] using hl
            have hne : dstOf ops i ≠ some d := fun hx => by
              unfold apartS at hap
              have h1 := List.all_eq_true.1 (List.all_eq_true.1 hap i hir) j (List.mem_range.2 hj)
              rw [hx, hd] at h1
              simp [Ne.symm hji] at h1
            rw [← hU j d hj hd hlj]
            cases hi2 : dstOf ops i with
            | none => rfl
            | some a =>
              have : d ≠ a := fun h => hne (by rw [hi2, h])
              simp [updS, this]
        · by_cases hji : j = i
          · subst hji
            unfold FactS
            rw [← hdi] at hFi
            cases hd : dstOf ops j with
            | none => simpa [slotS, slotV, hd] using hFi
            | some d => simpa [slotS, updS, slotV, hd] using hFi
          · have hlj : listed.getD j true = true := by
              simpa [Array.getElem?_setIfInBounds_ne (Ne.symm hji)] using hl
            have hxx : dstOf ops i ≠ some (X j) := fun hx => by
              unfold auxS at hax
              have h1 := List.all_eq_true.1 (List.all_eq_true.1 hax j (List.mem_range.2 hj)) i hir
              have hoj : ops[j]? = some ops[j] := Array.getElem?_eq_getElem hj
              rw [hx, hoj] at h1
              simp only [Option.map_some, Option.getD_some, bne_self_eq_false, Bool.or_false, beq_eq_false_iff_ne.2 (Ne.symm hji), Bool.false_or] at h1
              rw [Array.any_eq_true'] at h1
              obtain ⟨e, he, heb⟩ := h1
              rw [Bool.and_eq_true] at heb
              have h2 := hcl j _ hoj hlj e he heb.1
              have h2 : listed.getD i false = true := by
                rcases Bool.or_eq_true_iff.1 heb.2 with hei | hei
                · have hei : e.on = i := by simpa using hei
                  rw [← hei]; exact h2
                · cases hoe : ops[e.on]? with
                  | none => rw [hoe] at hei; cases hei
                  | some o' =>
                    rw [hoe] at hei
                    simp only [Option.map_some, Option.getD_some] at hei
                    rw [Array.any_eq_true'] at hei
                    obtain ⟨e', he', heb'⟩ := hei
                    rw [Bool.and_eq_true] at heb'
                    have hei' : e'.on = i := by simpa using heb'.2
                    have hon : e.on < listed.size := by
                      have := (Array.getElem?_eq_some_iff.1 hoe).1
                      omega
                    have h3 := hcl e.on o' hoe (by simp [hon] at h2 ⊢; exact h2) e' he' heb'.1
                    rw [← hei']; exact h3
              have hil : i < listed.size := by rw [hsz]; exact hin
              have h3 : listed[i]? = some listed[i] := Array.getElem?_eq_getElem hil
              simp [h3] at h2 hun
              rw [h2] at hun
              cases hun
            refine fact_upd (fun a b ha hb => ?_) hxx (hst j hji (hnd j hj hlj) (hF j hj ?_))
            · unfold apartS at hap
              have h1 := List.all_eq_true.1 (List.all_eq_true.1 hap i hir) j (List.mem_range.2 hj)
              rw [ha, hb] at h1
              simpa [Ne.symm hji] using h1
            · exact hlj
        · by_cases hji : j = i
          · subst hji
            obtain rfl : ops[j] = o := Option.some.inj (hoi.symm.trans hjo)
            have h2 := Array.all_eq_true'.1 haft e he
            rw [hbe] at h2
            simp only [Bool.not_true, Bool.false_or] at h2
            by_cases hej : e.on = j
            · rw [hej]
              have hil : j < listed.size := by rw [hsz]; exact hin
              simp [hil]
            · simpa [Array.getElem?_setIfInBounds_ne (Ne.symm hej)] using h2
          · have h2 := hcl j o hjo (by simpa [Array.getElem?_setIfInBounds_ne (Ne.symm hji)] using hl) e he hbe
            by_cases hei : e.on = i
            · rw [hei]
              have hil : i < listed.size := by rw [hsz]; exact hin
              simp [hil]
            · simpa [Array.getElem?_setIfInBounds_ne (Ne.symm hei)] using h2
        · have hsub : ((List.range ops.size).filter fun k => !(listed.setIfInBounds i true).getD k true).length < ((List.range ops.size).filter fun k => !listed.getD k true).length := by
            have e1 : ((List.range ops.size).filter fun k => !(listed.setIfInBounds i true).getD k true) = ((List.range ops.size).filter fun k => !listed.getD k true).filter fun k => k != i := by
              rw [List.filter_filter]
              refine List.filter_congr fun k hk => ?_
              by_cases hki : k = i
              · subst hki
                have : k < listed.size := by rw [hsz]; exact hin
                simp [this]
              · simp [Array.getElem?_setIfInBounds_ne (Ne.symm hki), hki]
            rw [e1]
            have hmem : i ∈ ((List.range ops.size).filter fun k => !listed.getD k true) := List.mem_filter.2 ⟨hir, hun⟩
            exact List.length_filter_lt_length_iff_exists.2 ⟨i, hmem, by simp⟩
          omega)
    unfold wpOp
    rw [hoi]
    simp only
    split
    · rename_i hw
      rw [if_pos hw] at hs
      exact Or.inl hs
    · rename_i hw
      rw [if_neg hw] at hs
      exact hs
/-- The region. -/
theorem wp_region_wasG {id : Nat} {a : Act} {w : World} (hm : P.follows .mixedOrders = true) (T : (Nat → Value) → Act) (X : Nat → Nat) (F : Nat → Value → Value → World → Prop) (G : World → Prop) (f0 : Nat → Value) (h0 : a = T f0) (hG : G w.drew)
    (hord : orderedS ops = true) (hap : apartS ops = true) (hax : auxS ops X = true)
    (hput : ∀ (i : Nat) (o : Oper), ops[i]? = some o → ∀ f v, (T f).put o.dst v = T (updS f o.dst v))
    (step : ∀ i, i < ops.size → StepSO P ops Q T X F G f0 i) (fin : ∀ f w, G w → (∀ j, j < ops.size → FactS ops X F j f w) → Q .normal (T f) w) : (Code.region id ops true).wp P Q a w := by
  subst h0
  refine wp_region_any hm (wpAny_old f0 T X F G hord hap hax hput step fin _ _ _ _ (fun _ _ _ _ _ => rfl) hG (fun j hj hl => ?_) (by simp) (fun j o hjo hl => ?_) ?_)
  · rw [Array.getD_eq_getD_getElem?, Array.getElem?_replicate, if_pos hj] at hl
    cases hl
  · have hj : j < ops.size := (Array.getElem?_eq_some_iff.1 hjo).1
    rw [Array.getD_eq_getD_getElem?, Array.getElem?_replicate, if_pos hj] at hl
    cases hl
  · refine Nat.le_trans (List.length_filter_le _ _) ?_
    rw [List.length_range]
    exact Nat.le_refl _
theorem wp_region_goO {id : Nat} {a : Act} {w : World} (X : Nat → Nat) (F : Nat → Value → Value → World → Prop) (G : World → Prop) (hm : P.follows .mixedOrders = true) (hG : G w.drew) (hord : orderedS ops = true) (hap : apartS ops = true) (hax : auxS ops X = true)
    (h : ∀ T : (Nat → Value) → Act, T = (fun f => putsS a f (dstsS ops)) → (∀ i, i < ops.size → StepSO P ops Q T X F G (fun d => a.tmps.getD d undef) i) ∧ (∀ f w, G w → (∀ j, j < ops.size → FactS ops X F j f w) → Q .normal (T f) w)) : (Code.region id ops true).wp P Q a w := by
  obtain ⟨h1, h2⟩ := h _ rfl
  refine wp_region_wasG hm _ X F G (fun d => a.tmps.getD d undef) (puts_own a _).symm hG hord hap hax (fun i o ho f v => ?_) h1 h2
  cases hd : o.dst with
  | none => rfl
  | some d =>
    refine puts_put d v f _ _ ?_
    unfold dstsS
    rw [List.mem_filterMap]
    refine ⟨o, ?_, hd⟩
    rw [Array.mem_toList_iff]
    exact Array.mem_of_getElem? ho
def StepO (P : Program) (ops : Array Oper) (L : List (Option Nat)) (Q : Exit → Act → World → Prop) (T : (Nat → Value) → Act) (X : Nat → Nat) (F : Nat → Value → Value → World → Prop) (G : World → Prop) (a : Act) (i : Nat) (o : Oper) : Prop :=
  ∀ f w, G w → (∀ d, lateS ops i d = true → f d = a.tmps.getD d undef) → (∀ j, (o.after.any fun e => Region.binds .any e && e.on == j) = true → FactL L X F j f w) →
    ∀ K : Act → World → Prop, Hid (∀ v w', G w' → F i (slotV o.dst v) (updS f o.dst v (X i)) w' → (∀ j, j ≠ i → depS ops j i = false → F j (slotS f ((L[j]?).join)) (f (X j)) w → F j (slotS f ((L[j]?).join)) (f (X j)) w') → K ((T f).put o.dst v) w') → Oper.wp P o (T f) w K Q
theorem StepA.was {L : List (Option Nat)} {T : (Nat → Value) → Act} {X : Nat → Nat} {F : Nat → Value → Value → World → Prop} {G : World → Prop} {a : Act} {i : Nat} {o : Oper} (h : StepA P ops L Q T X F G i o) : StepO P ops L Q T X F G a i o :=
  fun f w hG _ hF K hK => h f w hG hF K hK
def StepsO (P : Program) (ops : Array Oper) (L : List (Option Nat)) (Q : Exit → Act → World → Prop) (T : (Nat → Value) → Act) (X : Nat → Nat) (F : Nat → Value → Value → World → Prop) (G : World → Prop) (a : Act) : Nat → List Oper → Prop
  | _, [] => True
  | i, o :: os => StepO P ops L Q T X F G a i o ∧ StepsO P ops L Q T X F G a (i + 1) os
theorem StepsO.pick {L : List (Option Nat)} {T : (Nat → Value) → Act} {X : Nat → Nat} {F : Nat → Value → Value → World → Prop} {G : World → Prop} {a : Act} (os : List Oper) : ∀ (n i : Nat) (o : Oper), StepsO P ops L Q T X F G a n os → os[i]? = some o → StepO P ops L Q T X F G a (n + i) o := by
  induction os with
  | nil => intro n i o _ ho; simp at ho
  | cons p os ih =>
    intro n i o h ho
    cases i with
    | zero =>
      have ho : p = o := by simpa using ho
      subst ho
      exact h.1
    | succ i =>
      have := ih (n + 1) i o h.2 (by simpa using ho)
      rwa [show n + 1 + i = n + (i + 1) by omega] at this
theorem wp_region_was {rid : Nat} {a : Act} {w : World} {os : List Oper} (L : List (Option Nat)) (X : Nat → Nat) (F : Nat → Value → Value → World → Prop) (G : World → Prop) (hm : P.follows .mixedOrders = true) (hG : G w.drew) (hL : os.map (·.dst) = L) (hord : orderedS os.toArray = true) (hap : apartS os.toArray = true) (hax : auxS os.toArray X = true) (hgd : (os.all fun o => o.guard.isNone) = true)
    (h : ∀ T : (Nat → Value) → Act, T = (fun f => putsS a f (L.filterMap id)) → StepsO P os.toArray L Q T X F G a 0 os ∧ (∀ f w, G w → (∀ j, j < L.length → FactL L X F j f w) → Q .normal (T f) w)) : (Code.region rid os.toArray true).wp P Q a w := by
  have hd : dstsS os.toArray = L.filterMap id := by
    subst hL
    unfold dstsS
    rw [List.filterMap_map]
    rfl
  have hL' : os.toArray.toList.map (·.dst) = L := hL
  refine wp_region_goO X F G hm hG hord hap hax fun T hT => ?_
  rw [hd] at hT
  obtain ⟨h1, h2⟩ := h T hT
  refine ⟨fun i hi => ?_, fun f w hG hF => h2 f w hG fun j hj => ?_⟩
  · intro o ho f w hG hU hF K hK
    have hos : os[i]? = some o := by simpa using ho
    have hs := StepsO.pick os 0 i _ h1 hos
    rw [Nat.zero_add] at hs
    have hgn : o.guard = none := by
      have := List.all_eq_true.1 hgd o (List.mem_of_getElem? hos)
      simpa using this
    rw [if_pos (by simp [Region.wanted, hgn])]
    exact hs f w hG hU (fun j hj => by rw [← fact_eq L hL']; exact hF j hj) K (Lib.hid fun v w' g1 g2 g3 => hK v w' g1 g2 fun j hj hd h => by
      rw [fact_eq L hL'] at h ⊢
      exact g3 j hj hd h)
  · rw [← fact_eq L hL']
    refine hF j ?_
    have : L.length = os.length := by rw [← hL, List.length_map]
    simp
    omega
end
end Go.Proofs.YtbpclifgafafdaaDoor
