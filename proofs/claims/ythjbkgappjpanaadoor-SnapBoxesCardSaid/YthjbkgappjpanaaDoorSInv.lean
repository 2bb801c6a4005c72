/- A box and the reference's list of pieces that say the same: each step keeps this, and both answer alike. Condition: both lie in memory. -/
import Derived.Test.YthjbkgappjpanaaDoorSRTake
import Derived.Test.YthjbkgappjpanaaDoorSRText
import Derived.Test.YthjbkgappjpanaaDoorSBs
namespace Go.Proofs.YthjbkgappjpanaaDoor
open Go.RowKit

structure BI (T sm : Nat) (th : Nat → Bool) (dt : Nat → ByteArray) (R : List PcM) : Prop where
  nil : R = [] → T = 0
  all : ∀ p ∈ R, p.t = T ∧ p.c = sm ∧ p.d.size ≤ 4000
  cnt : (missN th T).length + R.length = T
  le : T ≤ 100
  thh : ∀ i, thR R i = th i
  dtt : ∀ i m, fnd R i = some m → dt i = m.d
  sz : ∀ i, (dt i).size ≤ 4000
theorem BI.zero : BI 0 0 (fun _ => false) (fun _ => ⟨#[]⟩) [] := ⟨fun _ => rfl, fun _ h => by simp at h, rfl, by omega, fun _ => rfl, fun _ _ h => by simp [fnd] at h, fun _ => Nat.zero_le _⟩
theorem BI.pos {T sm : Nat} {th : Nat → Bool} {dt : Nat → ByteArray} {R : List PcM} (h : BI T sm th dt R) (hT : T = 0) : R = [] := by
  have := h.cnt
  exact List.eq_nil_of_length_eq_zero (by omega)
theorem fnd_app (R : List PcM) (q : PcM) (i : Nat) (h : fnd R q.i = none) : fnd (R ++ [q]) i = if i = q.i then some q else fnd R i := by
  unfold fnd at *
  rw [List.find?_append]
  by_cases e : i = q.i
  · subst e
    rw [h, if_pos rfl]
    simp
  · rw [if_neg e]
    have : ([q].find? fun p => p.i == i) = none := by simp; omega
    rw [this, Option.or_none]
theorem missN_upd (th : Nat → Bool) (i : Nat) (h : th i = false) : ∀ k, (missN (updT th i) k).length + (if i < k then 1 else 0) = (missN th k).length := by
  intro k
  induction k with
  | zero => rfl
  | succ k ih =>
    rw [missN_succ, missN_succ, List.length_append, List.length_append]
    by_cases e : k = i
    · subst e
      have h1 : updT th k k = true := by simp [updT]
      rw [h1, h]
      rw [if_neg (show ¬ k < k by omega)] at ih
      rw [if_pos (show k < k + 1 by omega)]
      simp at ih ⊢
      omega
    · have h1 : updT th i k = th k := by simp [updT, e]
      rw [h1]
      by_cases e2 : i < k
      · rw [if_pos e2] at ih
        rw [if_pos (show i < k + 1 by omega)]
        omega
      · rw [if_neg e2] at ih
        rw [if_neg (show ¬ i < k + 1 by omega)]
        omega
theorem missN_false (th : Nat → Bool) (h : ∀ i, th i = false) (k : Nat) : (missN th k).length = k := by
  induction k with
  | zero => rfl
  | succ k ih => rw [missN_succ, h k, List.length_append, ih]; simp
theorem BI.new {T sm : Nat} {th : Nat → Bool} {dt : Nat → ByteArray} {R : List PcM} (h : BI T sm th dt R) (q : PcM) (h2 : q.t ≤ 100) (h3 : q.i < q.t) (h4 : q.d.size ≤ 4000) (hc : chkOk T sm th dt q.i q.t q.c q.d = 0) :
    BI q.t q.c (updT th q.i) (updD dt q.i q.d) (R ++ [q]) ∧ ((missN (updT th q.i) q.t).length = 0 ↔ R.length + 1 = q.t) ∧ fnd R q.i = none ∧ ∀ p R', R = p :: R' → p.t = q.t ∧ p.c = q.c := by
  have hun : ¬ (0 < T ∧ (q.t ≠ T ∨ q.c ≠ sm)) := fun hh => by unfold chkOk at hc; rw [if_pos hh] at hc; cases hc
  have hth : th q.i = false := by
    unfold chkOk at hc
    rw [if_neg hun] at hc
    by_cases hh : th q.i = false
    · exact hh
    · rw [if_neg hh] at hc
      split at hc <;> cases hc
  have hfn : fnd R q.i = none := by
    have := h.thh q.i
    rw [hth] at this
    unfold thR at this
    simpa using this
  have hsame : ∀ p ∈ R, p.t = q.t ∧ p.c = q.c ∧ p.d.size ≤ 4000 := fun p hp => by
    obtain ⟨h5, h6, h7⟩ := h.all p hp
    have hT : 0 < T := by
      rcases Nat.eq_zero_or_pos T with h0 | h0
      · rw [h.pos h0] at hp; simp at hp
      · exact h0
    refine ⟨?_, ?_, h7⟩
    · exact Classical.byContradiction fun hne => hun ⟨hT, .inl (by omega)⟩
    · exact Classical.byContradiction fun hne => hun ⟨hT, .inr (by omega)⟩
  have hcnt : (missN (updT th q.i) q.t).length + (R.length + 1) = q.t := by
    have h8 := missN_upd th q.i hth q.t
    rw [if_pos h3] at h8
    rcases Nat.eq_zero_or_pos T with h0 | h0
    · have hR := h.pos h0
      have hf : ∀ i, th i = false := fun i => by rw [← h.thh i, hR]; rfl
      have := missN_false th hf q.t
      rw [hR]; simp; omega
    · have hTq : q.t = T := Classical.byContradiction fun hne => hun ⟨h0, .inl hne⟩
      have := h.cnt
      rw [hTq] at h8 ⊢
      omega
  refine ⟨⟨fun hn => ?_, fun p hp => ?_, ?_, h2, fun i => ?_, fun i m hm => ?_, fun i => ?_⟩, by omega, hfn, fun p R' hR => ?_⟩
  · simp at hn
  · rcases List.mem_append.1 hp with hp | hp
    · exact hsame p hp
    · simp at hp; subst hp; exact ⟨rfl, rfl, h4⟩
  · rw [List.length_append]; exact hcnt
  · unfold thR updT
    rw [fnd_app R q i hfn]
    by_cases e : i = q.i
    · rw [if_pos e, if_pos e]; rfl
    · rw [if_neg e, if_neg e]; exact h.thh i
  · rw [fnd_app R q i hfn] at hm
    unfold updD
    by_cases e : i = q.i
    · rw [if_pos e] at hm ⊢
      injection hm with hm; rw [hm]
    · rw [if_neg e] at hm ⊢; exact h.dtt i m hm
  · unfold updD; split
    · exact h4
    · exact h.sz i
  · obtain ⟨h5, h6, _⟩ := hsame p (by rw [hR]; simp)
    exact ⟨h5, h6⟩
/-- One piece, brought to both. -/
theorem step_both (g : Nat) (T sm : Nat) (th : Nat → Bool) (dt : Nat → ByteArray) (R : List PcM) (h : BI T sm th dt R) (i t : Int) (c : Nat) (d : ByteArray) (hi : -9223372036854775808 ≤ i ∧ i ≤ 9223372036854775807) :
    ∃ (bb : Bool) (ee T' sm' : Nat) (th' : Nat → Bool) (dt' : Nat → ByteArray) (R' : List PcM), BI T' sm' th' dt' R' ∧ R'.length ≤ R.length + 1 ∧
      (∀ w, Bx w g (bxC T sm th dt) → Calls Tryd.prog 11 #[.pointer (some ⟨g, 0, none⟩), .agg #[.int .i64 i, .int .i64 t, .int .u32 (c : Int), .string d]] w fun e w' => e = .returned (.tuple #[.bool bb, .int .i64 (ee : Int)]) ∧ Bx w' g (bxC T' sm' th' dt') ∧ Onl g w w') ∧
      (∀ (A : Option Addr) (n cc B : Nat) w, n = R.length → w.ownsRow B 33 4 (.slice A n cc) n (rpV R) → n ≤ 1000 → B ≤ w.heap.size →
        Calls Tryd.prog 12 #[.slice A n cc, .agg #[.int .i64 i, .int .i64 t, .int .u32 (c : Int), .string d]] w fun e w' => ∃ A' n' c', e = .returned (.tuple #[.slice A' n' c', .bool bb, .int .i64 (ee : Int)]) ∧ n' = R'.length ∧ w'.ownsRow B 33 4 (.slice A' n' c') n' (rpV R') ∧ Below w.heap.size w w') := by
  by_cases hbad : argBad i t d.size
  · refine ⟨false, 1, T, sm, th, dt, R, h, by omega, fun w hx => ?_, fun A n cc B w hn ho hs hB => ?_⟩
    · refine (take_no g i t c d w 1 (by decide) (fun w' _ => check_bad g i t c d w' hbad)).mono ?_
      rintro e w' ⟨rfl, hb⟩
      exact ⟨rfl, hx.bel hb, Onl.of_below hb⟩
    · refine (rtake_bad A n cc i t c d w hbad).mono ?_
      rintro e w' ⟨rfl, hb⟩
      exact ⟨A, n, cc, rfl, hn, own_belS ho hb, hb⟩
  · have hg : 1 ≤ t ∧ t ≤ 100 ∧ 0 ≤ i ∧ i < t ∧ d.size ≤ 4000 := by unfold argBad at hbad; omega
    obtain ⟨k, rfl⟩ : ∃ k : Nat, i = (k : Int) := ⟨i.toNat, by omega⟩
    obtain ⟨s, rfl⟩ : ∃ s : Nat, t = (s : Int) := ⟨t.toNat, by omega⟩
    obtain ⟨g1, g2, _, g4, g5⟩ := hg
    have e1 : 1 ≤ s := by omega
    have e2 : s ≤ 100 := by omega
    have e3 : k < s := by omega
    clear hbad hi g1 g2 g4
    by_cases hc : chkOk T sm th dt k s c d = 0
    · obtain ⟨hnew, hiff, hfn, hall⟩ := h.new ⟨k, s, c, d⟩ e2 e3 g5 hc
      refine ⟨decide (R.length + 1 = s), 0, s, c, updT th k, updD dt k d, R ++ [⟨k, s, c, d⟩], hnew, by simp, fun w hx => ?_, fun A n cc B w hn ho hs hB => ?_⟩
      · have := take_ok g T sm th dt k s c d w hx e1 e2 e3 g5 hc
        rw [decide_eq_decide.2 hiff] at this
        exact this
      · subst hn
        refine (rtake_good A R.length cc B R ⟨k, s, c, d⟩ w rfl ho hs hB e1 e2 e3 g5).mono ?_
        rintro e w' ⟨hb, hh⟩
        rcases hh with ⟨r, _, h8⟩ | ⟨_, _, A', c', rfl, ho'⟩
        · exfalso
          rcases h8 with ⟨_, ⟨p, R', hR, hne⟩ | ⟨_, m, hm, _⟩⟩ | ⟨_, _, m, hm, _⟩
          · obtain ⟨h5, h6⟩ := hall p R' hR
            rcases hne with hne | hne
            · exact hne h5
            · exact hne h6
          · rw [hfn] at hm; cases hm
          · rw [hfn] at hm; cases hm
        · exact ⟨A', _, c', rfl, by simp, own_low ho' hB, hb⟩
    · refine ⟨false, chkOk T sm th dt k s c d, T, sm, th, dt, R, h, by omega, fun w hx => ?_, fun A n cc B w hn ho hs hB => ?_⟩
      · refine (take_no g (k : Int) (s : Int) c d w _ hc (fun w' hb => check_good g T sm th dt k s c d w' (hx.bel hb) e1 e2 e3 g5)).mono ?_
        rintro e w' ⟨rfl, hb⟩
        exact ⟨rfl, hx.bel hb, Onl.of_below hb⟩
      · subst hn
        refine (rtake_good A R.length cc B R ⟨k, s, c, d⟩ w rfl ho hs hB e1 e2 e3 g5).mono ?_
        rintro e w' ⟨hb, hh⟩
        have hsome : ∀ m, fnd R k = some m → th k = true ∧ dt k = m.d := fun m hm => ⟨by rw [← h.thh k]; unfold thR; rw [hm]; rfl, h.dtt k m hm⟩
        have hok : (∀ p R', R = p :: R' → p.t = s ∧ p.c = c) → ¬ (0 < T ∧ (s ≠ T ∨ c ≠ sm)) := fun hall hh => by
          rcases R with _ | ⟨p, R'⟩
          · have := h.nil rfl; omega
          · obtain ⟨h5, h6⟩ := hall p R' rfl
            obtain ⟨h7, h8, _⟩ := h.all p (by simp)
            omega
        rcases hh with ⟨r, rfl, h8⟩ | ⟨hfn, hall, _⟩
        · refine ⟨A, _, cc, ?_, rfl, own_belS ho hb, hb⟩
          have hr : r = chkOk T sm th dt k s c d := by
            rcases h8 with ⟨rfl, ⟨p, R', hR, hne⟩ | ⟨hall, m, hm, hd⟩⟩ | ⟨rfl, hall, m, hm, hd⟩
            · obtain ⟨h7, h8, _⟩ := h.all p (by rw [hR]; simp)
              have hT : 0 < T := by
                rcases Nat.eq_zero_or_pos T with h0 | h0
                · rw [h.pos h0] at hR; cases hR
                · exact h0
              unfold chkOk
              rw [if_pos ⟨hT, by simp only at hne; omega⟩]; rfl
            · obtain ⟨h5, h6⟩ := hsome m hm
              unfold chkOk
              rw [if_neg (hok hall), if_neg (by rw [h5]; simp), if_neg (by rw [h6]; exact fun hh => hd hh.symm)]; rfl
            · obtain ⟨h5, h6⟩ := hsome m hm
              unfold chkOk
              rw [if_neg (hok hall), if_neg (by rw [h5]; simp), if_pos (by rw [h6]; exact hd.symm)]; rfl
          rw [hr]
        · exfalso
          refine hc ?_
          have : th k = false := by
            have := h.thh k
            unfold thR at this
            rw [← this]
            show (fnd R k).isSome = false
            rw [show fnd R k = none from hfn]; rfl
          unfold chkOk
          rw [if_neg (hok hall), if_pos this]
theorem str_cat {R : List PcM} {dt : Nat → ByteArray} : ∀ k, (∀ i, i < k → ∃ m, fnd R i = some m ∧ dt i = m.d) → octN (strO R k) = catN dt k := by
  intro k
  induction k with
  | zero => intro _; rfl
  | succ k ih =>
    intro hh
    obtain ⟨m, hm, hd⟩ := hh k (by omega)
    unfold strO datO
    rw [oct_append, ih (fun i hi => hh i (by omega)), catN_succ, hm, hd]
theorem BI.full {T sm : Nat} {th : Nat → Bool} {dt : Nat → ByteArray} {R : List PcM} (_h : BI T sm th dt R) (hm : (missN th T).length = 0) : ∀ i, i < T → th i = true := by
  intro i hi
  have h0 : missN th T = [] := List.eq_nil_of_length_eq_zero hm
  unfold missN at h0
  rw [List.filter_eq_nil_iff] at h0
  have := h0 i (List.mem_range.2 hi)
  simpa using this
theorem rtextE_cons (p : PcM) (R' : List PcM) : rtextE (p :: R') = if (p :: R').length < p.t then 6 else if 4000 < (strO (p :: R') (p :: R').length).size then 2 else if sumN (strO (p :: R') (p :: R').length) ≠ p.c then 4 else 0 := rfl
theorem text_both {T sm : Nat} {th : Nat → Bool} {dt : Nat → ByteArray} {R : List PcM} (h : BI T sm th dt R) : textE T sm th dt = rtextE R ∧ textS T sm th dt = rtextS R := by
  rcases R with _ | ⟨p, R'⟩
  · have h0 := h.nil rfl
    have e1 : textE T sm th dt = 6 := by unfold textE; rw [if_pos (.inl h0)]
    exact ⟨e1, by unfold textS rtextS; rw [e1]; rfl⟩
  · obtain ⟨h5, h6, _⟩ := h.all p (by simp)
    have hcnt := h.cnt
    by_cases hm : 0 < (missN th T).length
    · have e1 : textE T sm th dt = 6 := by unfold textE; rw [if_pos (.inr hm)]
      have e2 : rtextE (p :: R') = 6 := by rw [rtextE_cons, if_pos (by omega)]
      exact ⟨by rw [e1, e2], by unfold textS rtextS; rw [e1, e2]; rfl⟩
    · have hm0 : (missN th T).length = 0 := by omega
      have hfull := h.full hm0
      have hlen : (p :: R').length = T := by omega
      have hoct : octN (strO (p :: R') T) = catN dt T := str_cat T (fun i hi => by
        have := h.thh i
        rw [hfull i hi] at this
        unfold thR at this
        obtain ⟨m, hm⟩ := Option.isSome_iff_exists.1 this
        exact ⟨m, hm, h.dtt i m hm⟩)
      have hsz : (strO (p :: R') T).size = (catN dt T).length := by rw [← hoct, octN_length]
      have hsum : sumN (strO (p :: R') T) = 4294967295 - crcGo (catN dt T) := by unfold sumN; rw [hoct]
      have htxt : strO (p :: R') T = txt (catN dt T) := by rw [← hoct, txt_oct]
      have e1 : textE T sm th dt = rtextE (p :: R') := by
        rw [rtextE_cons, if_neg (by omega), hlen, hsz, hsum, h6]
        unfold textE
        rw [if_neg (by simp only [List.length_cons] at hlen; omega)]
      refine ⟨e1, ?_⟩
      unfold textS rtextS
      rw [e1, hlen, htxt]
end Go.Proofs.YthjbkgappjpanaaDoor
