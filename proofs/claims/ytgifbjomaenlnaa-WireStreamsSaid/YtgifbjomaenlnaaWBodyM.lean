/- What readBody reads of bytes, as plain data; what was written is read again. No condition. -/
import Derived.Test.YtgifbjomaenlnaaWRdM
namespace Go.Proofs.Ytgifbjomaenlnaa
open Go.RowKit

def msgOf (x : Nat) (zs : List Int) : MsgM := ⟨x, zs.getD 0 0, zs.getD 1 0, zs.getD 2 0, zs.getD 3 0, zs.getD 4 0, zs.getD 5 0, zs.getD 6 0, false, []⟩
def tailP (x : Nat) (zs : List Int) : List Nat → Option MsgM
  | o :: c :: l => (entsP c l).map fun r => { msgOf x zs with ok := o == 1, ents := r.1 }
  | _ => none
def bodyR : List Nat → Option MsgM
  | [] => none
  | x :: l => (numsP 7 l).bind fun p => tailP x p.1 p.2
def bodyP (l : List Nat) : Option MsgM := (bodyR l).bind fun m => if checkN m = 0 ∧ encN m = l then some m else none
theorem bodyP_of {l : List Nat} {m : MsgM} (h : bodyP l = some m) : checkN m = 0 ∧ encN m = l := by
  unfold bodyP at h
  cases hb : bodyR l with
  | none => rw [hb] at h; cases h
  | some m' =>
    rw [hb, Option.bind_some] at h
    split at h
    · injection h with h
      subst h
      assumption
    · cases h
theorem numsP_none {l : List Nat} {k : Nat} (h : numsP k l = none) : ∀ j, k ≤ j → numsP j l = none := by
  intro j hj
  induction hj with
  | refl => exact h
  | step _ ih => rw [numsP, ih]; rfl
theorem entsP_none {l : List Nat} {k : Nat} (h : entsP k l = none) : ∀ j, k ≤ j → entsP j l = none := by
  intro j hj
  induction hj with
  | refl => exact h
  | step _ ih => rw [entsP, ih]; rfl
theorem txtW_sub {l : List Nat} {s : ByteArray} {r : List Nat} (h : txtW l = some (s, r)) : (∀ x ∈ r, x ∈ l) ∧ (∀ c, (∀ x ∈ l, x < c) → s.size < c) ∧ r.length < l.length := by
  rcases l with _ | ⟨x, l⟩
  · cases h
  · change (if x ≤ l.length then some (txt (l.take x), l.drop x) else none) = _ at h
    split at h
    · rename_i hx
      injection h with h
      injection h with h1 h2
      subst h1
      subst h2
      refine ⟨fun y hy => List.mem_cons_of_mem _ (List.mem_of_mem_drop hy), fun c hc => ?_, by simp; omega⟩
      have h3 := hc x (by simp)
      have : (txt (l.take x)).size = x := by
        show ((l.take x).map UInt8.ofNat).toArray.size = x
        simp
        omega
      omega
    · cases h
theorem entP_sub {l : List Nat} {e : Int × ByteArray} {r : List Nat} (h : entP l = some (e, r)) : (∀ x ∈ r, x ∈ l) ∧ ((∀ x ∈ l, x < 256) → inI e.1 ∧ e.2.size < 256) ∧ r.length < l.length := by
  unfold entP at h
  cases hn : numP 0 0 l with
  | none => rw [hn] at h; cases h
  | some p =>
    obtain ⟨z, l2⟩ := p
    rw [hn, Option.bind_some] at h
    cases ht : txtW l2 with
    | none => simp only [ht] at h; cases h
    | some q =>
      obtain ⟨s, l3⟩ := q
      simp only [ht, Option.map_some] at h
      injection h with h
      injection h with h1 h2
      subst h1
      subst h2
      obtain ⟨a1, a2, a3⟩ := txtW_sub ht
      have b1 := numP_sub _ _ _ _ _ hn
      have b2 := numP_len _ _ _ _ _ hn
      exact ⟨fun x hx => b1 x (a1 x hx), fun hl => ⟨numP_in _ _ _ _ _ (by omega) hn, a2 256 (fun x hx => hl x (b1 x hx))⟩, by omega⟩
theorem numsP_sub {l : List Nat} : ∀ {k : Nat} {zs : List Int} {r : List Nat}, numsP k l = some (zs, r) → (∀ x ∈ r, x ∈ l) ∧ (∀ z ∈ zs, inI z) ∧ zs.length = k ∧ r.length ≤ l.length
  | 0, zs, r, h => by
    injection h with h
    injection h with h1 h2
    subst h1
    subst h2
    exact ⟨fun _ h => h, fun z hz => absurd hz List.not_mem_nil, rfl, Nat.le_refl _⟩
  | k + 1, zs, r, h => by
    rw [numsP] at h
    cases hn : numsP k l with
    | none => rw [hn] at h; cases h
    | some p =>
      obtain ⟨zs0, r0⟩ := p
      obtain ⟨a1, a2, a3, a4⟩ := numsP_sub hn
      rw [hn, Option.bind_some] at h
      cases hz : numP 0 0 r0 with
      | none => simp only [hz] at h; cases h
      | some q =>
        obtain ⟨z, r1⟩ := q
        simp only [hz, Option.map_some] at h
        injection h with h
        injection h with h1 h2
        subst h1
        subst h2
        have b1 := numP_sub _ _ _ _ _ hz
        have b2 := numP_len _ _ _ _ _ hz
        refine ⟨fun x hx => a1 x (b1 x hx), fun y hy => ?_, by simp [a3], by omega⟩
        rcases List.mem_append.1 hy with hy | hy
        · exact a2 y hy
        · simp only [List.mem_singleton] at hy
          subst hy
          exact numP_in _ _ _ _ _ (by omega) hz
theorem entsP_sub {l : List Nat} : ∀ {k : Nat} {es : List (Int × ByteArray)} {r : List Nat}, entsP k l = some (es, r) → (∀ x ∈ r, x ∈ l) ∧ ((∀ x ∈ l, x < 256) → ∀ e ∈ es, inI e.1 ∧ e.2.size < 256) ∧ es.length = k ∧ r.length ≤ l.length
  | 0, zs, r, h => by
    injection h with h
    injection h with h1 h2
    subst h1
    subst h2
    exact ⟨fun _ h => h, fun _ z hz => absurd hz List.not_mem_nil, rfl, Nat.le_refl _⟩
  | k + 1, zs, r, h => by
    rw [entsP] at h
    cases hn : entsP k l with
    | none => rw [hn] at h; cases h
    | some p =>
      obtain ⟨zs0, r0⟩ := p
      obtain ⟨a1, a2, a3, a4⟩ := entsP_sub hn
      rw [hn, Option.bind_some] at h
      cases hz : entP r0 with
      | none => simp only [hz] at h; cases h
      | some q =>
        obtain ⟨z, r1⟩ := q
        simp only [hz, Option.map_some] at h
        injection h with h
        injection h with h1 h2
        subst h1
        subst h2
        obtain ⟨b1, b2, b3⟩ := entP_sub hz
        refine ⟨fun x hx => a1 x (b1 x hx), fun hl y hy => ?_, by simp [a3], by omega⟩
        rcases List.mem_append.1 hy with hy | hy
        · exact a2 hl y hy
        · simp only [List.mem_singleton] at hy
          subst hy
          exact b2 (fun x hx => hl x (a1 x hx))
theorem getD_in {zs : List Int} (h : ∀ z ∈ zs, inI z) (k : Nat) : inI (zs.getD k 0) := by
  rcases Nat.lt_or_ge k zs.length with hk | hk
  · rw [List.getD_eq_getElem?_getD, List.getElem?_eq_getElem hk]
    exact h _ (List.getElem_mem hk)
  · rw [List.getD_eq_getElem?_getD, List.getElem?_eq_none hk]
    exact ⟨by decide, by decide⟩
theorem msgOf_num (x : Nat) (zs : List Int) (b : Bool) (es : List (Int × ByteArray)) (h : ∀ z ∈ zs, inI z) (k : Nat) : inI (({ msgOf x zs with ok := b, ents := es } : MsgM).num k) := by
  unfold MsgM.num
  split <;> exact getD_in h _
theorem numsP_enc (m : MsgM) (h : ∀ k, inI (m.num k)) (r : List Nat) : ∀ k, k ≤ 7 → numsP k (numsN m k ++ r) = some ((List.range k).map m.num, r) := by
  have go : ∀ k r, numsP k (numsN m k ++ r) = some ((List.range k).map m.num, r) := by
    intro k
    induction k with
    | zero => intro r; rfl
    | succ k ih =>
      intro r
      rw [numsP, numsN, List.append_assoc, ih, Option.bind_some]
      simp only [numP_num _ (h k), Option.map_some, List.range_succ, List.map_append, List.map_cons, List.map_nil]
  exact fun k _ => go k r
theorem entsP_enc (l : List (Int × ByteArray)) (h : ∀ e ∈ l, inI e.1 ∧ e.2.size ≤ 80) : ∀ k r, k ≤ l.length → entsP k (entsN l k ++ r) = some (l.take k, r) := by
  intro k
  induction k with
  | zero => intro r _; rfl
  | succ k ih =>
    intro r hk
    have e1 : l.getD k (0, ByteArray.empty) = l[k] := by simp [List.getElem?_eq_getElem (show k < l.length by omega)]
    have h1 := h l[k] (List.getElem_mem (by omega))
    rw [entsP, entsN, e1, List.append_assoc, ih _ (by omega), Option.bind_some]
    simp only [entP_enc _ h1.1 h1.2, Option.map_some, List.take_succ_eq_append_getElem (show k < l.length by omega)]
theorem bodyP_enc (m : MsgM) (hc : checkN m = 0) (h0 : 0 ≤ m.kind ∧ m.kind ≤ 255) (hn : m.ents.length ≤ 8) (hk : ∀ k, inI (m.num k)) (he : ∀ e ∈ m.ents, inI e.1 ∧ e.2.size ≤ 80) : bodyP (encN m) = some m := by
  have e0 : encN m = (m.kind % 256).toNat :: (numsN m 7 ++ ((if m.ok then 1 else 0) :: m.ents.length % 256 :: entsN m.ents m.ents.length)) := by
    unfold encN headN
    simp only [List.append_assoc, List.cons_append, List.nil_append]
  have e1 : bodyR (encN m) = some m := by
    rw [e0]
    show (numsP 7 _).bind _ = _
    rw [numsP_enc m hk _ 7 (Nat.le_refl _), Option.bind_some]
    have e2 := entsP_enc m.ents he m.ents.length [] (Nat.le_refl _)
    rw [List.append_nil, List.take_length] at e2
    show (entsP (m.ents.length % 256) (entsN m.ents m.ents.length)).map _ = _
    rw [Nat.mod_eq_of_lt (by omega), e2, Option.map_some]
    have e3 : (((m.kind % 256).toNat : Nat) : Int) = m.kind := by omega
    obtain ⟨kd, a, b, c, d, e, f, g, ok, es⟩ := m
    simp only at e3
    simp only [msgOf, e3]
    congr 2
    cases ok <;> rfl
  unfold bodyP
  rw [e1, Option.bind_some, if_pos ⟨hc, rfl⟩]
end Go.Proofs.Ytgifbjomaenlnaa
