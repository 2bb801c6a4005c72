/- What a stream reads of bytes, as plain data: whole frames, in whatever pieces they come. No condition. -/
import Derived.Test.YtgifbjomaenlnaaWFrame
import Derived.Test.YtgifbjomaenlnaaWBody
namespace Go.Proofs.Ytgifbjomaenlnaa
open Go.RowKit

def sizeN (l : List Nat) : Nat := 256 * l.getD 0 0 + l.getD 1 0
/-- Are the first bytes a whole frame, of no wrong size? -/
def fitB (l : List Nat) : Bool := decide (2 ≤ l.length) && decide (sizeN l ≤ 900) && decide (sizeN l + 2 ≤ l.length)
def firstN (l : List Nat) : Option (MsgM × Nat) := if fitB l = true then (bodyP ((l.drop 2).take (sizeN l))).map fun m => (m, sizeN l + 2) else none
/-- What ends the reading: 0 where more bytes are waited for. -/
def firstE (l : List Nat) : Nat := if l.length < 2 then 0 else if 900 < sizeN l then 2 else if l.length < sizeN l + 2 then 0 else if firstN l = none then 3 else 0
def runF : Nat → List Nat → List MsgM × List Nat
  | 0, l => ([], l)
  | f + 1, l => match firstN l with
    | none => ([], l)
    | some (m, s) => (m :: (runF f (l.drop s)).1, (runF f (l.drop s)).2)
def run (l : List Nat) : List MsgM × List Nat := runF l.length l
theorem fit_of {l : List Nat} (h : fitB l = true) : 2 ≤ l.length ∧ sizeN l ≤ 900 ∧ sizeN l + 2 ≤ l.length := by
  unfold fitB at h
  rw [Bool.and_eq_true, Bool.and_eq_true] at h
  exact ⟨of_decide_eq_true h.1.1, of_decide_eq_true h.1.2, of_decide_eq_true h.2⟩
theorem fit_mk {l : List Nat} (h1 : 2 ≤ l.length) (h2 : sizeN l ≤ 900) (h3 : sizeN l + 2 ≤ l.length) : fitB l = true := by
  unfold fitB
  rw [decide_eq_true h1, decide_eq_true h2, decide_eq_true h3]
  rfl
theorem first_some {l : List Nat} {m : MsgM} {s : Nat} (h : firstN l = some (m, s)) : fitB l = true ∧ bodyP ((l.drop 2).take (sizeN l)) = some m ∧ s = sizeN l + 2 := by
  unfold firstN at h
  split at h
  · rename_i hf
    cases hb : bodyP ((l.drop 2).take (sizeN l)) with
    | none => rw [hb] at h; cases h
    | some m' =>
      rw [hb] at h
      injection h with h
      injection h with h1 h2
      exact ⟨hf, by rw [h1], h2.symm⟩
  · cases h
theorem first_pos {l : List Nat} {m : MsgM} {s : Nat} (h : firstN l = some (m, s)) : 2 ≤ s ∧ s ≤ l.length := by
  obtain ⟨h1, _, rfl⟩ := first_some h
  have := fit_of h1
  omega
theorem runF_more : ∀ (f : Nat) (l : List Nat), l.length ≤ f → runF (f + 1) l = runF f l
  | 0, l, h => by
    have : l = [] := List.eq_nil_of_length_eq_zero (by omega)
    subst this
    rfl
  | f + 1, l, h => by
    show (match firstN l with | none => (([] : List MsgM), l) | some (m, s) => (m :: (runF (f + 1) (l.drop s)).1, (runF (f + 1) (l.drop s)).2)) = (match firstN l with | none => (([] : List MsgM), l) | some (m, s) => (m :: (runF f (l.drop s)).1, (runF f (l.drop s)).2))
    cases hf : firstN l with
    | none => rfl
    | some p =>
      obtain ⟨m, s⟩ := p
      have := first_pos hf
      simp only
      rw [runF_more f (l.drop s) (by rw [List.length_drop]; omega)]
theorem runF_run : ∀ (f : Nat) (l : List Nat), l.length ≤ f → runF f l = run l := by
  intro f l h
  unfold run
  induction h with
  | refl => rfl
  | step h ih => rw [runF_more _ _ h, ih]
theorem run_none {l : List Nat} (h : firstN l = none) : run l = ([], l) := by
  unfold run
  cases hl : l.length with
  | zero => rfl
  | succ n =>
    show (match firstN l with | none => (([] : List MsgM), l) | some (m, s) => (m :: (runF n (l.drop s)).1, (runF n (l.drop s)).2)) = _
    rw [h]
theorem run_some {l : List Nat} {m : MsgM} {s : Nat} (h : firstN l = some (m, s)) : run l = (m :: (run (l.drop s)).1, (run (l.drop s)).2) := by
  have hp := first_pos h
  obtain ⟨n, hn⟩ : ∃ n, l.length = n + 1 := ⟨l.length - 1, by omega⟩
  unfold run
  rw [hn]
  show (match firstN l with | none => (([] : List MsgM), l) | some (m, s) => (m :: (runF n (l.drop s)).1, (runF n (l.drop s)).2)) = _
  rw [h]
  simp only
  rw [runF_run n (l.drop s) (by rw [List.length_drop]; omega)]
  rfl
/-- By the length of what is left. -/
theorem run_ind {P : List Nat → Prop} (h0 : ∀ l, firstN l = none → P l) (h1 : ∀ l m s, firstN l = some (m, s) → P (l.drop s) → P l) : ∀ l, P l := by
  have : ∀ n l, l.length ≤ n → P l := by
    intro n
    induction n with
    | zero =>
      intro l hl
      refine h0 l ?_
      have : l = [] := List.eq_nil_of_length_eq_zero (by omega)
      subst this
      rfl
    | succ n ih =>
      intro l hl
      cases hf : firstN l with
      | none => exact h0 l hf
      | some p =>
        obtain ⟨m, s⟩ := p
        have := first_pos hf
        exact h1 l m s hf (ih _ (by rw [List.length_drop]; omega))
  exact fun l => this l.length l (Nat.le_refl _)
theorem run_end (l : List Nat) : firstN (run l).2 = none := by
  refine run_ind (P := fun l => firstN (run l).2 = none) (fun l h => ?_) (fun l m s h ih => ?_) l
  · rw [run_none h]; exact h
  · rw [run_some h]; exact ih
theorem sizeN_append {a b : List Nat} (h : 2 ≤ a.length) : sizeN (a ++ b) = sizeN a := by
  unfold sizeN
  simp only [List.getD_eq_getElem?_getD]
  rw [List.getElem?_append_left (by omega), List.getElem?_append_left (by omega)]
theorem first_append {a b : List Nat} {m : MsgM} {s : Nat} (h : firstN a = some (m, s)) : firstN (a ++ b) = some (m, s) := by
  obtain ⟨h1, h2, rfl⟩ := first_some h
  obtain ⟨q1, q2, q3⟩ := fit_of h1
  have hs := sizeN_append (b := b) q1
  unfold firstN
  rw [if_pos (fit_mk (by rw [List.length_append]; omega) (by rw [hs]; exact q2) (by rw [hs, List.length_append]; omega)), hs, List.drop_append_of_le_length q1, List.take_append_of_le_length (by rw [List.length_drop]; omega), h2]
  rfl
theorem firstE_append {a b : List Nat} (h : firstE a ≠ 0) : firstN (a ++ b) = none ∧ firstE (a ++ b) = firstE a := by
  unfold firstE at h
  split at h
  · exact absurd rfl h
  · rename_i q1
    have hs := sizeN_append (a := a) (b := b) (by omega)
    split at h
    · rename_i q2
      have hn : firstN (a ++ b) = none := by
        unfold firstN
        rw [if_neg (fun hf => by have := (fit_of hf).2.1; omega)]
      refine ⟨hn, ?_⟩
      unfold firstE
      rw [if_neg (by rw [List.length_append]; omega), if_pos (by rw [hs]; exact q2), if_neg q1, if_pos q2]
    · rename_i q2
      split at h
      · exact absurd rfl h
      · rename_i q3
        split at h
        · rename_i q4
          have hb : bodyP ((a.drop 2).take (sizeN a)) = none := by
            cases hb : bodyP ((a.drop 2).take (sizeN a)) with
            | none => rfl
            | some m =>
              exfalso
              have : firstN a = some (m, sizeN a + 2) := by
                unfold firstN
                rw [if_pos (fit_mk (by omega) (by omega) (by omega)), hb]
                rfl
              rw [this] at q4
              cases q4
          have hn : firstN (a ++ b) = none := by
            unfold firstN
            split
            · rw [hs, List.drop_append_of_le_length (by omega), List.take_append_of_le_length (by rw [List.length_drop]; omega), hb]
              rfl
            · rfl
          refine ⟨hn, ?_⟩
          unfold firstE
          rw [if_neg (by rw [List.length_append]; omega), if_neg (by rw [hs]; exact q2), if_neg (by rw [hs, List.length_append]; omega), if_pos hn, if_neg q1, if_neg q2, if_neg q3, if_pos q4]
        · exact absurd rfl h
/-- Bytes that come later. -/
theorem run_append (a b : List Nat) : (firstE (run a).2 = 0 → run (a ++ b) = ((run a).1 ++ (run ((run a).2 ++ b)).1, (run ((run a).2 ++ b)).2)) ∧ (firstE (run a).2 ≠ 0 → run (a ++ b) = ((run a).1, (run a).2 ++ b)) := by
  refine run_ind (P := fun a => (firstE (run a).2 = 0 → run (a ++ b) = ((run a).1 ++ (run ((run a).2 ++ b)).1, (run ((run a).2 ++ b)).2)) ∧ (firstE (run a).2 ≠ 0 → run (a ++ b) = ((run a).1, (run a).2 ++ b))) (fun l h => ?_) (fun l m s h ih => ?_) a
  · rw [run_none h]
    exact ⟨fun _ => rfl, fun he => by rw [run_none (firstE_append he).1]⟩
  · have hp := first_pos h
    rw [run_some h, run_some (first_append h), List.drop_append_of_le_length hp.2]
    refine ⟨fun he => ?_, fun he => ?_⟩
    · rw [ih.1 he]
      rfl
    · rw [ih.2 he]
/-- The bytes are the frames of the messages, and what is left. -/
theorem first_frame {l : List Nat} {m : MsgM} {s : Nat} (hl : ∀ x ∈ l, x < 256) (h : firstN l = some (m, s)) : checkN m = 0 ∧ s = (frameN m).length ∧ l.take s = frameN m := by
  obtain ⟨h1, h2, rfl⟩ := first_some h
  obtain ⟨q1, q2, q3⟩ := fit_of h1
  obtain ⟨hc, he⟩ := bodyP_of h2
  have hen : (encN m).length = sizeN l := by rw [he, List.length_take, List.length_drop]; omega
  match l, q1, hl, he, hen, q3 with
  | x :: y :: r, _, hl, he, hen, q3 =>
    have hx := hl x (by simp)
    have hy := hl y (by simp)
    have hsz : sizeN (x :: y :: r) = 256 * x + y := rfl
    rw [hsz] at he hen ⊢
    refine ⟨hc, by unfold frameN; simp only [List.length_cons]; omega, ?_⟩
    rw [List.take_succ_cons, List.take_succ_cons]
    unfold frameN
    rw [hen, he]
    congr 1
    · omega
    · congr 1
      omega
def framesN : List MsgM → List Nat
  | [] => []
  | m :: l => frameN m ++ framesN l
theorem run_frames (l : List Nat) : (∀ x ∈ l, x < 256) → l = framesN (run l).1 ++ (run l).2 ∧ ∀ m ∈ (run l).1, checkN m = 0 := by
  refine run_ind (P := fun l => (∀ x ∈ l, x < 256) → l = framesN (run l).1 ++ (run l).2 ∧ ∀ m ∈ (run l).1, checkN m = 0) (fun l h hl => ?_) (fun l m s h ih hl => ?_) l
  · rw [run_none h]
    exact ⟨rfl, fun m hm => by cases hm⟩
  · obtain ⟨q1, q2, q3⟩ := first_frame hl h
    obtain ⟨i1, i2⟩ := ih (fun x hx => hl x (List.mem_of_mem_drop hx))
    rw [run_some h]
    refine ⟨?_, fun x hx => ?_⟩
    · show l = (frameN m ++ framesN (run (l.drop s)).1) ++ (run (l.drop s)).2
      rw [List.append_assoc, ← i1, ← q3, List.take_append_drop]
    · rcases List.mem_cons.1 hx with rfl | hx
      · exact q1
      · exact i2 x hx
/-- A message that can be told. -/
structure Told (m : MsgM) : Prop where
  ck : checkN m = 0
  nm : ∀ k, inI (m.num k)
  en : ∀ e ∈ m.ents, inI e.1
theorem Told.body {m : MsgM} (h : Told m) : bodyP (encN m) = some m := by
  obtain ⟨q0, q1, q2, q3⟩ := check_ok h.ck
  exact bodyP_enc m h.ck ⟨q0, q1⟩ q2 h.nm (fun e he => ⟨h.en e he, q3 e he⟩)
theorem size_frame (m : MsgM) (r : List Nat) : sizeN (frameN m ++ r) = (encN m).length := by
  show 256 * ((encN m).length / 256) + (encN m).length % 256 = _
  omega
theorem frameN_len (m : MsgM) : (frameN m).length = (encN m).length + 2 := rfl
theorem first_of {m : MsgM} (h : Told m) (r : List Nat) : firstN (frameN m ++ r) = some (m, (frameN m).length) := by
  have hl := encN_len h.ck
  unfold firstN
  rw [if_pos (fit_mk (by rw [List.length_append, frameN_len]; omega) (by rw [size_frame]; exact hl) (by rw [size_frame, List.length_append, frameN_len]; omega)), size_frame]
  have : (List.drop 2 (frameN m ++ r)).take (encN m).length = encN m := by
    show (encN m ++ r).take (encN m).length = _
    rw [List.take_left]
  rw [this, h.body]
  rfl
/-- A part of a frame waits. -/
theorem part_none {m : MsgM} (h : Told m) {k : Nat} (hk : k < (frameN m).length) : firstN ((frameN m).take k) = none ∧ firstE ((frameN m).take k) = 0 := by
  have hl := encN_len h.ck
  have hlen : ((frameN m).take k).length = k := by rw [List.length_take]; omega
  have hsz : 2 ≤ k → sizeN ((frameN m).take k) = (encN m).length := fun h2 => by
    have := size_frame m []
    rw [List.append_nil] at this
    rw [← this]
    unfold sizeN
    simp only [List.getD_eq_getElem?_getD, List.getElem?_take]
    rw [if_pos (by omega), if_pos (by omega)]
  rw [frameN_len] at hk
  have hn : firstN ((frameN m).take k) = none := by
    unfold firstN
    rw [if_neg (fun hf => by
      obtain ⟨q1, q2, q3⟩ := fit_of hf
      rw [hlen] at q1 q3
      rw [hsz q1] at q3
      omega)]
  refine ⟨hn, ?_⟩
  unfold firstE
  rw [hlen]
  by_cases h2 : k < 2
  · rw [if_pos h2]
  · rw [if_neg h2, hsz (by omega), if_neg (by omega), if_pos (by omega)]
theorem framesN_append : ∀ a b : List MsgM, framesN (a ++ b) = framesN a ++ framesN b
  | [], _ => rfl
  | m :: a, b => by rw [List.cons_append, framesN, framesN_append a b, framesN, List.append_assoc]
theorem run_told : ∀ (l : List MsgM) (r : List Nat), (∀ m ∈ l, Told m) → firstN r = none → run (framesN l ++ r) = (l, r)
  | [], r, _, h => by rw [framesN, List.nil_append, run_none h]
  | m :: l, r, hl, h => by
    have hm := hl m (by simp)
    rw [framesN, List.append_assoc, run_some (first_of hm _), List.drop_left, run_told l r (fun x hx => hl x (List.mem_cons_of_mem _ hx)) h]
end Go.Proofs.Ytgifbjomaenlnaa
