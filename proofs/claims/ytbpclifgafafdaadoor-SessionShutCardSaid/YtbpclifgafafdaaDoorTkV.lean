/- What the layer makes of a token. Conditions: the texts are not huge; the library's table and errors are laid. -/
import Derived.Test.YtbpclifgafafdaaDoorTkI
namespace Go.Proofs.YtbpclifgafafdaaDoor
open Go.RowKit Go.Shelf

theorem Pows.bel {w w' : World} (h : Pows w) (hb : Below w.heap.size w w') : Pows w' := by
  unfold Pows Lib.TabIs World.var? at *
  cases hg : Tryd.prog.globalNamed "internal/strconv.uint64pow10" with
  | none => rw [hg] at h; simp at h
  | some g =>
    rw [hg] at h
    simp only [Option.bind_some] at h ⊢
    have hlt : g < w.heap.size := by
      rcases Nat.lt_or_ge g w.heap.size with h' | h'
      · exact h'
      · rw [Array.getElem?_eq_none h'] at h; simp at h
    rw [hb.block g hlt]
    exact h
theorem Errs.bel {w w' : World} (h : Errs w) (hb : Below w.heap.size w w') : Errs w' := by
  obtain ⟨⟨t, p, h1⟩, ⟨t2, p2, h2⟩⟩ := h
  exact ⟨⟨t, p, (hb.cell (Lib.lt_of_cell h1)).trans h1⟩, ⟨t2, p2, (hb.cell (Lib.lt_of_cell h2)).trans h2⟩⟩
theorem list_beq (a b : List UInt8) : ((⟨a.toArray⟩ : ByteArray).toList == (⟨b.toArray⟩ : ByteArray).toList) = decide (a = b) := by
  rw [ByteArray.toList_eq, ByteArray.toList_eq]
  by_cases h : a = b
  · subst h; simp
  · rw [decide_eq_false h, beq_eq_false_iff_ne]; simpa using h
set_option maxRecDepth 100000 in
set_option maxHeartbeats 1000000 in
theorem number_any (l : List UInt8) (hl : l.length ≤ 100000) (w : World) (hE : Errs w) (hT : Pows w) :
    Calls Tryd.prog 31 #[.string ⟨l.toArray⟩] w fun e w' => ∃ n : Int, e = .returned (.tuple #[.int .i64 n, .bool (numR l).isSome]) ∧ (∀ u, numR l = some u → n = (u : Int)) ∧ -9223372036854775808 ≤ n ∧ n ≤ 9223372036854775807 ∧ Below w.heap.size w w' := by
  obtain ⟨s, hs⟩ : ∃ s : ByteArray, s = ⟨l.toArray⟩ := ⟨_, rfl⟩
  have HC := Lib.hid (atoi_any s (by rw [hs]; show l.toArray.size ≤ _; simp; omega) w hE)
  have HT := Lib.hid hT
  have HS := Lib.hid hs
  rw [← hs]
  clear hs hE hT hl
  go_enter Tryd.func31, Tryd.ntmps31
  go_wp2_with fail
  refine HC.out.mono ?_
  rintro e w1 ⟨n, v, rfl, ⟨hn0, hn1, hr⟩, b1⟩
  have B1 := Lib.hid b1
  clear b1 HC
  rw [HS.out] at hr
  rcases hr with ⟨ha, rfl⟩ | ⟨⟨t, p, rfl⟩, ha⟩
  · by_cases hneg : n < 0
    · have HR := Lib.hid (num_none (l := l) (Or.inr ⟨n, ha, hneg⟩))
      clear ha
      go_wp2_with fail
      go_ret2
      exact ⟨n, by rw [HR.out]; rfl, (fun u h => by rw [HR.out] at h; cases h), hn0, hn1, B1.out⟩
    · have hge : 0 ≤ n := by omega
      have HI := Lib.hid (itoa_any n (by omega) hn1 w1 (HT.out.bel B1.out))
      have hway := num_way ha hge hn1
      have hbe := list_beq (Lib.itoa n) l
      rw [← HS.out] at hbe
      rcases hway with ⟨h1, h2⟩ | ⟨h1, h2⟩
      · rw [decide_eq_true h1] at hbe
        have HR := Lib.hid h2
        obtain ⟨t, ht⟩ : ∃ t : ByteArray, t = ⟨(Lib.itoa n).toArray⟩ := ⟨_, rfl⟩
        rw [← ht] at hbe HI
        clear ha hneg h1 h2 ht
        go_wp2_with fail
        refine HI.out.mono ?_
        rintro e w2 ⟨rfl, b2⟩
        have B2 := Lib.hid (below_step B1.out b2)
        clear b2
        go_wp2_with fail
        go_ret2
        exact ⟨n, by rw [HR.out]; rfl, (fun u h => by rw [HR.out] at h; injection h with h; omega), hn0, hn1, B2.out⟩
      · rw [decide_eq_false h1] at hbe
        have HR := Lib.hid h2
        obtain ⟨t, ht⟩ : ∃ t : ByteArray, t = ⟨(Lib.itoa n).toArray⟩ := ⟨_, rfl⟩
        rw [← ht] at hbe HI
        clear ha hneg h1 h2 ht
        go_wp2_with fail
        refine HI.out.mono ?_
        rintro e w2 ⟨rfl, b2⟩
        have B2 := Lib.hid (below_step B1.out b2)
        clear b2
        go_wp2_with fail
        go_ret2
        exact ⟨n, by rw [HR.out]; rfl, (fun u h => by rw [HR.out] at h; cases h), hn0, hn1, B2.out⟩
  · have HR := Lib.hid (num_none (l := l) (Or.inl ha))
    clear ha
    go_wp2_with fail
    go_ret2
    exact ⟨n, by rw [HR.out]; rfl, (fun u h => by rw [HR.out] at h; cases h), hn0, hn1, B1.out⟩
/-- What a token's parts are for the layer. -/
def pD (l : List UInt8) : List UInt8 := (cutD l).1
def qD (l : List UInt8) : List UInt8 := (cutD (cutD l).2.1).1
def rD (l : List UInt8) : List UInt8 := (cutD (cutD l).2.1).2.1
def fD (l : List UInt8) : Bool := (cutD (cutD l).2.1).2.2
def okD (l : List UInt8) : Bool := fD l && (nameB ⟨(pD l).toArray⟩ && ((numR (qD l)).isSome && !(cutD (rD l)).2.2))
theorem cut_len (l : List UInt8) : (cutD l).1.length ≤ l.length ∧ (cutD l).2.1.length ≤ l.length := by
  cases h : (cutD l).2.2
  · obtain ⟨e1, e2⟩ := cutD_none h
    rw [e1, e2]; simp
  · obtain ⟨e, _⟩ := cutD_some h
    have := congrArg List.length e
    simp at this
    omega
set_option maxRecDepth 100000 in
set_option maxHeartbeats 1000000 in
theorem parts_any (l : List UInt8) (hl : l.length ≤ 1000) (w : World) (hE : Errs w) (hT : Pows w) :
    Calls Tryd.prog 20 #[.string ⟨l.toArray⟩] w fun e w' => ∃ n : Int, e = .returned (.tuple #[.string ⟨(pD l).toArray⟩, .int .i64 n, .bool (okD l)]) ∧ (okD l = true → ∃ u : Nat, numR (qD l) = some u ∧ n = (u : Int)) ∧ Below w.heap.size w w' := by
  have L1 := cut_len l
  have L2 := cut_len (cutD l).2.1
  have L3 := cut_len (cutD (cutD l).2.1).2.1
  have C1 := Lib.hid (cut_any l (by omega) w)
  have HP := Lib.hid (show ∀ w', _ from name_any ⟨(pD l).toArray⟩ (by show (pD l).toArray.size ≤ _; unfold pD; simp; omega))
  have HC2 := Lib.hid (fun w' => cut_any (cutD l).2.1 (by omega) w')
  have HQ := Lib.hid (fun w' h1 h2 => number_any (qD l) (by unfold qD; omega) w' h1 h2)
  have HR := Lib.hid (fun w' => contains_any ⟨(rD l).toArray⟩ w')
  have HK := Lib.hid (show okD l = (fD l && (nameB ⟨(pD l).toArray⟩ && ((numR (qD l)).isSome && !(cutD (rD l)).2.2))) from rfl)
  have HE := Lib.hid (And.intro hE hT)
  obtain ⟨p, hp⟩ : ∃ p : ByteArray, p = ⟨(pD l).toArray⟩ := ⟨_, rfl⟩
  obtain ⟨q, hq⟩ : ∃ q : ByteArray, q = ⟨(qD l).toArray⟩ := ⟨_, rfl⟩
  obtain ⟨r, hr⟩ : ∃ r : ByteArray, r = ⟨(rD l).toArray⟩ := ⟨_, rfl⟩
  obtain ⟨t, ht⟩ : ∃ t : ByteArray, t = ⟨(cutD l).2.1.toArray⟩ := ⟨_, rfl⟩
  obtain ⟨f, hf⟩ : ∃ f, f = fD l := ⟨_, rfl⟩
  obtain ⟨s, hs⟩ : ∃ s : ByteArray, s = ⟨l.toArray⟩ := ⟨_, rfl⟩
  have C1' : Hid (Calls Tryd.prog 30 #[.string s, .string ⟨#[46]⟩] w fun e w' => e = .returned (.tuple #[.string p, .string t, .bool (cutD l).2.2]) ∧ Below w.heap.size w w') := Lib.hid (by rw [hs, hp, ht]; exact C1.out)
  have HC2' : Hid (∀ w', Calls Tryd.prog 30 #[.string t, .string ⟨#[46]⟩] w' fun e w'' => e = .returned (.tuple #[.string q, .string r, .bool f]) ∧ Below w'.heap.size w' w'') := Lib.hid (by rw [hq, hr, ht, hf]; exact HC2.out)
  rw [← hq] at HQ
  have HR' : Hid (∀ w', Calls Tryd.prog 32 #[.string r, .string ⟨#[46]⟩] w' fun e w'' => e = .returned (.bool (cutD (rD l)).2.2) ∧ w'' = w') := Lib.hid (by rw [hr]; exact HR.out)
  rw [← hp] at HP HK ⊢
  rw [← hf] at HK
  rw [← hs]
  obtain ⟨b1, hb1⟩ : ∃ b, b = (cutD l).2.2 := ⟨_, rfl⟩
  rw [← hb1] at C1'
  obtain ⟨nm, hnm⟩ : ∃ b, b = nameB p := ⟨_, rfl⟩
  rw [← hnm] at HP HK
  obtain ⟨ct, hct⟩ : ∃ b, b = (cutD (rD l)).2.2 := ⟨_, rfl⟩
  rw [← hct] at HR' HK
  obtain ⟨o, ho⟩ : ∃ o, o = numR (qD l) := ⟨_, rfl⟩
  rw [← ho] at HQ HK ⊢
  clear C1 HC2 HR hp hq hr ht hf hs hb1 hnm hct ho L1 L2 L3 hE hT hl
  go_enter Tryd.func20, Tryd.ntmps20
  go_wp2_with fail
  refine C1'.out.mono ?_
  rintro e w1 ⟨rfl, k1⟩
  have B1 := Lib.hid k1
  clear k1
  go_wp2_with fail
  refine (HC2'.out w1).mono ?_
  rintro e w2 ⟨rfl, k2⟩
  have B2 := Lib.hid (below_step B1.out k2)
  clear k2
  have CQ := Lib.hid (HQ.out w2 (HE.out.1.bel B2.out) (HE.out.2.bel B2.out))
  go_wp2_with fail
  refine CQ.out.mono ?_
  rintro e w3 ⟨n, rfl, hn, hn0, hn1, k3⟩
  have B3 := Lib.hid (below_step B2.out k3)
  have HN := Lib.hid hn
  clear k3 hn CQ
  cases f
  · have HKF := Lib.hid (show okD l = false by rw [HK.out]; rfl)
    go_wp2_with fail
    go_ret3
    exact ⟨n, by rw [HKF.out]; rfl, (fun h => by rw [HKF.out] at h; cases h), B3.out⟩
  · cases nm
    · have HKF := Lib.hid (show okD l = false by rw [HK.out]; rfl)
      go_wp2_with (go_at_call 16; refine (HP.out _).mono ?_; rintro e w' ⟨rfl, rfl⟩)
      go_ret3
      exact ⟨n, by rw [HKF.out]; rfl, (fun h => by rw [HKF.out] at h; cases h), B3.out⟩
    · cases o with
      | none =>
        have HKF := Lib.hid (show okD l = false by rw [HK.out]; rfl)
        go_wp2_with (go_at_call 16; refine (HP.out _).mono ?_; rintro e w' ⟨rfl, rfl⟩)
        go_ret3
        exact ⟨n, by rw [HKF.out]; rfl, (fun h => by rw [HKF.out] at h; cases h), B3.out⟩
      | some u =>
        have hnu := Lib.hid (HN.out u rfl)
        cases ct
        · have HKF := Lib.hid (show okD l = true by rw [HK.out]; rfl)
          go_wp2_with (first
            | (go_at_call 16; refine (HP.out _).mono ?_; rintro e w' ⟨rfl, rfl⟩)
            | (go_at_call 32; refine (HR'.out _).mono ?_; rintro e w' ⟨rfl, rfl⟩))
          go_ret3
          exact ⟨n, by rw [HKF.out]; rfl, (fun _ => ⟨u, rfl, hnu.out⟩), B3.out⟩
        · have HKF := Lib.hid (show okD l = false by rw [HK.out]; rfl)
          go_wp2_with (first
            | (go_at_call 16; refine (HP.out _).mono ?_; rintro e w' ⟨rfl, rfl⟩)
            | (go_at_call 32; refine (HR'.out _).mono ?_; rintro e w' ⟨rfl, rfl⟩))
          go_ret3
          exact ⟨n, by rw [HKF.out]; rfl, (fun h => by rw [HKF.out] at h; cases h), B3.out⟩
/-- Whose token it is, and the error's number. -/
def verV (key : List Nat) (l : List UInt8) (now : Int) : ByteArray :=
  if okD l = true ∧ tokT key ⟨(pD l).toArray⟩ (((numR (qD l)).getD 0 : Nat) : Int) = ⟨l.toArray⟩ ∧ now < (((numR (qD l)).getD 0 : Nat) : Int) then ⟨(pD l).toArray⟩ else ⟨#[]⟩
def verE (key : List Nat) (l : List UInt8) (now : Int) : Int :=
  if okD l = false then 3 else if tokT key ⟨(pD l).toArray⟩ (((numR (qD l)).getD 0 : Nat) : Int) ≠ ⟨l.toArray⟩ then 8 else if (((numR (qD l)).getD 0 : Nat) : Int) ≤ now then 10 else 0
set_option maxRecDepth 100000 in
set_option maxHeartbeats 1000000 in
theorem verify_any (A : Option Addr) (n c : Nat) (key : List Nat) (hn : n = key.length) (h100 : n ≤ 100) (hnc : n ≤ c) (l : List UInt8) (hl : l.length ≤ 1000) (now : Int) (_h0 : -9223372036854775808 ≤ now) (_h1 : now ≤ 9223372036854775807) (w : World) (hA : Seg w A (u8s key)) (hk : ∀ x ∈ key, x < 256) (hE : Errs w) (hT : Pows w) :
    Calls Tryd.prog 10 #[.slice A n c, .string ⟨l.toArray⟩, .int .i64 now] w fun e w' => e = .returned (.tuple #[.string (verV key l now), .int .i64 (verE key l now)]) ∧ Below w.heap.size w w' := by
  have CP := Lib.hid (parts_any l hl w hE hT)
  have hpl : (pD l).length ≤ 1000 := by have := cut_len l; unfold pD; omega
  obtain ⟨p, hp⟩ : ∃ p : ByteArray, p = ⟨(pD l).toArray⟩ := ⟨_, rfl⟩
  obtain ⟨s, hs⟩ : ∃ s : ByteArray, s = ⟨l.toArray⟩ := ⟨_, rfl⟩
  have hpz : p.size ≤ 1000 := by rw [hp]; show (pD l).toArray.size ≤ _; simp; omega
  obtain ⟨ok, hok⟩ : ∃ b, b = okD l := ⟨_, rfl⟩
  have hnm : ok = true → nameB p = true := by
    intro h; rw [hok] at h; unfold okD at h; rw [← hp] at h
    simp only [Bool.and_eq_true] at h; exact h.2.1
  have HV : Hid (verV key l now = (if ok = true ∧ tokT key p (((numR (qD l)).getD 0 : Nat) : Int) = s ∧ now < (((numR (qD l)).getD 0 : Nat) : Int) then p else ⟨#[]⟩) ∧ verE key l now = (if ok = false then 3 else if tokT key p (((numR (qD l)).getD 0 : Nat) : Int) ≠ s then 8 else if (((numR (qD l)).getD 0 : Nat) : Int) ≤ now then 10 else 0)) := Lib.hid (by rw [hok, hp, hs]; exact ⟨rfl, rfl⟩)
  rw [← hp, ← hs, ← hok] at CP
  rw [← hs]
  have HA := Lib.hid hA
  have HK := Lib.hid (And.intro hk (And.intro hn (And.intro hE hT)))
  obtain ⟨V, hV⟩ : ∃ V, V = verV key l now := ⟨_, rfl⟩
  obtain ⟨E, hE'⟩ : ∃ E, E = verE key l now := ⟨_, rfl⟩
  rw [← hV, ← hE'] at HV ⊢
  have HP := Lib.hid hpz
  have HNM := Lib.hid hnm
  clear hp hs hok hA hk hn hE hT hV hE' hpz hnm hpl hl
  go_enter Tryd.func10, Tryd.ntmps10
  go_wp2_with fail
  refine CP.out.mono ?_
  rintro e w1 ⟨m, rfl, hm, b1⟩
  have B1 := Lib.hid b1
  clear b1 CP
  cases ok
  · obtain ⟨hV, hE'⟩ := HV.out
    rw [if_neg (fun h => by cases h.1)] at hV
    rw [if_pos rfl] at hE'
    subst hV hE'
    clear hm
    go_wp2_with fail
    go_ret2
    exact ⟨rfl, B1.out⟩
  · obtain ⟨u, hu, rfl⟩ := hm rfl
    have hu64 := (num_dec hu).2
    have HV2 := HV.out
    rw [hu] at HV2
    simp only [Option.getD_some, true_and, Bool.true_eq_false, if_false] at HV2
    have CI := Lib.hid (issue_ok A n c key HK.out.2.1 h100 hnc p HP.out (u : Int) (by omega) (by omega) w1 (HA.out.bel B1.out) HK.out.1 (HK.out.2.2.2.bel B1.out) (HNM.out rfl))
    have HV3 := Lib.hid HV2
    clear hm hu HV HV2
    go_wp2_with fail
    refine CI.out.mono ?_
    rintro e w2 ⟨rfl, b2⟩
    have B2 := Lib.hid (below_step B1.out b2)
    clear b2 CI
    obtain ⟨T, hT⟩ : ∃ T, T = tokT key p (u : Int) := ⟨_, rfl⟩
    rw [← hT] at HV3 ⊢
    have hbe := beq_of s T
    clear hT
    by_cases he : T = s
    · rw [decide_eq_true he.symm] at hbe
      obtain ⟨hV, hE'⟩ := HV3.out
      by_cases hnow : now < (u : Int)
      · rw [if_pos ⟨he, hnow⟩] at hV
        rw [if_neg (fun h => h he), if_neg (by omega)] at hE'
        have CC := Lib.hid (sclone_any p (by have := HP.out; omega) w2)
        subst hV hE'
        clear he
        go_wp2_with fail
        refine CC.out.mono ?_
        rintro e w3 ⟨rfl, b3⟩
        have B3 := Lib.hid (below_step B2.out b3)
        clear b3
        go_wp2_with fail
        go_ret2
        exact ⟨rfl, B3.out⟩
      · rw [if_neg (fun h => hnow h.2)] at hV
        rw [if_neg (fun h => h he), if_pos (by omega)] at hE'
        subst hV hE'
        clear he
        go_wp2_with fail
        go_ret2
        exact ⟨rfl, B2.out⟩
    · rw [decide_eq_false (fun h => he h.symm)] at hbe
      obtain ⟨hV, hE'⟩ := HV3.out
      rw [if_neg (fun h => he h.1)] at hV
      rw [if_pos he] at hE'
      subst hV hE'
      clear he
      go_wp2_with fail
      go_ret2
      exact ⟨rfl, B2.out⟩
end Go.Proofs.YtbpclifgafafdaaDoor
