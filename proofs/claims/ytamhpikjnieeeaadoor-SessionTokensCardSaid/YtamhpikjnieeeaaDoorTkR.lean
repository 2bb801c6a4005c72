/- The reference's Token and number. Conditions: the texts are not huge. -/
import Derived.Test.YtamhpikjnieeeaaDoorTkV
namespace Go.Proofs.YtamhpikjnieeeaaDoor
open Go.RowKit Go.Shelf

set_option maxRecDepth 100000 in
set_option maxHeartbeats 2000000 in
theorem rtok_any (A : Option Addr) (n c : Nat) (key : List Nat) (hn : n = key.length) (h100 : n ≤ 100) (user : ByteArray) (hu : user.size ≤ 1000) (u : Int) (h0 : 0 ≤ u) (h1 : u ≤ 9223372036854775807) (w : World) (hA : Seg w A (u8s key)) (hk : ∀ x ∈ key, x < 256) :
    Calls Tryd.prog 11 #[.slice A n c, .string user, .int .i64 u] w fun e w' => e = .returned (.string (tokT key user u)) ∧ Below w.heap.size w w' := by
  have HI := Lib.hid (digits_any u (by omega) h1 w)
  have hz := saidT_size user u (by omega) h1
  have hi := intS_size u (by omega) h1
  have HR := Lib.hid (show tokT key user u = saidT user u ++ ⟨#[46]⟩ ++ markT key user u from rfl)
  obtain ⟨T, hTe⟩ : ∃ T, T = saidT user u := ⟨_, rfl⟩
  obtain ⟨D, hD⟩ : ∃ D, D = intS u := ⟨_, rfl⟩
  have hdz : D.size ≤ 21 := by rw [hD]; exact hi
  have hTD : user ++ ⟨#[46]⟩ ++ D = T := by rw [hTe, hD]; rfl
  rw [← hD] at HI
  have hTz : T.size ≤ 1022 := by rw [hTe]; omega
  have ha1 : ∀ w', (Op.stringOp .add user ⟨#[46]⟩).run Tryd.prog w' = .ok (.string (user ++ ⟨#[46]⟩)) w' := fun w' => run_string_add_sum (P := Tryd.prog) w' _ _ (by show _ + 1 ≤ _; omega)
  have ha2 : ∀ w', (Op.stringOp .add (user ++ ⟨#[46]⟩) D).run Tryd.prog w' = .ok (.string T) w' := fun w' => by
    rw [run_string_add_sum (P := Tryd.prog) w' _ _ (by rw [ByteArray.size_append]; show user.size + 1 + _ ≤ _; omega), hTD]
  have ha3 : ∀ w', (Op.stringOp .add T ⟨#[46]⟩).run Tryd.prog w' = .ok (.string (T ++ ⟨#[46]⟩)) w' := fun w' => run_string_add_sum (P := Tryd.prog) w' _ _ (by show _ + 1 ≤ _; omega)
  have hm40 := markT_size key user u
  have HM : Hid (markT key user u = txt (hexN (macN key (octs T)))) := Lib.hid (by rw [hTe]; rfl)
  obtain ⟨M, hMe⟩ : ∃ M, M = markT key user u := ⟨_, rfl⟩
  rw [← hMe] at hm40 HM HR
  rw [← hTe] at HR
  have ha4 : ∀ w', (Op.stringOp .add (T ++ ⟨#[46]⟩) M).run Tryd.prog w' = .ok (.string (T ++ ⟨#[46]⟩ ++ M)) w' := fun w' => run_string_add_sum (P := Tryd.prog) w' _ _ (by rw [ByteArray.size_append]; show T.size + 1 + _ ≤ _; omega)
  have HA := Lib.hid hA
  have HK := Lib.hid hk
  have HN := Lib.hid hn
  have HTZ := Lib.hid hTz
  rw [HR.out]
  clear hTe hD hTD hMe hA hk hn hz hi hdz hm40 HR hu hTz
  go_enter Tryd.func11, Tryd.ntmps11
  go_wp2_with fail
  refine HI.out.mono ?_
  rintro e w1 ⟨rfl, b1⟩
  have B1 := Lib.hid b1
  clear b1
  obtain ⟨cc, w2, hcv, hcc, hsg, hb2, hlt⟩ := convS_any T w1
  have B2 := Lib.hid (below_step B1.out hb2)
  have CM := Lib.hid (rmac_any A w1.heap.size n c T.size cc key (octs T) HN.out (octs_length T).symm (by omega) (by have := HTZ.out; omega) w2 (HA.out.bel B2.out) hsg hlt HK.out (octs_lt T))
  clear hcc hsg hb2 B1 hlt
  go_wp2_with fail
  refine CM.out.mono ?_
  rintro e w3 ⟨A3, c3, rfl, hc3, s3, b3⟩
  have B3 := Lib.hid (below_step B2.out b3)
  have CH := Lib.hid (refhex_any A3 20 c3 (macN key (octs T)) (macN_len _ _).symm (by omega) w3 s3 (macN_lt _ _))
  rw [← HM.out] at CH
  clear s3 b3 hcv B2 CM hc3
  go_wp2_with fail
  refine CH.out.mono ?_
  rintro e w4 ⟨rfl, b4⟩
  have B4 := Lib.hid (below_step B3.out b4)
  clear b4
  go_wp2_with fail
  go_ret
  exact ⟨rfl, B4.out⟩
/-- What the reference's number answers. -/
def numZ (l : List UInt8) : Int := match numR l with | some u => (u : Int) | none => -1
theorem idx_l (l : List UInt8) (s : ByteArray) (hs : s = ⟨l.toArray⟩) (k : Nat) (hk : k < l.length) (w : World) : (Instr.index 9 (.string s) (.int .i64 (k : Int))).run Tryd.prog w = .ok (.int .u8 ((l[k].toNat : Nat) : Int)) w := by
  subst hs
  rw [run_index_string w 9 _ .i64 (k : Int) Tryd.underlying9, dif_pos ⟨by omega, by show (k : Int) < ((l.toArray.size : Nat) : Int); simp; omega⟩]
  congr 4
set_option maxRecDepth 100000 in
set_option maxHeartbeats 2000000 in
theorem rnumber_any (l : List UInt8) (hl : l.length ≤ 100000) (w : World) :
    Calls Tryd.prog 18 #[.string ⟨l.toArray⟩] w fun e w' => e = .returned (.int .i64 (numZ l)) ∧ w = w' := by
  obtain ⟨s, hs⟩ : ∃ s : ByteArray, s = ⟨l.toArray⟩ := ⟨_, rfl⟩
  have hsz : s.size = l.length := by rw [hs]; show l.toArray.size = _; simp
  have hix := fun k hk w' => idx_l l s hs k hk w'
  rw [← hs]
  by_cases hbad : l.length = 0 ∨ 19 < l.length ∨ (l.head?.map (·.toNat) = some 48 ∧ 1 < l.length)
  · have HR := Lib.hid (show numZ l = -1 by unfold numZ numR; rw [if_pos hbad])
    rcases hbad with h | h | ⟨h, h'⟩
    · have hz : (s.size : Int) = 0 := by omega
      clear hix hs hsz h hl
      go_enter Tryd.func18, Tryd.ntmps18
      go_wp2
      go_ret
      exact ⟨by rw [HR.out]; rfl, rfl⟩
    · have hz : (19 : Int) < (s.size : Int) := by omega
      have hz0 : ((s.size : Int) == 0) = false := by rw [beq_eq_false_iff_ne]; omega
      have hz2 : (s.size : Int) ≤ 100000 := by omega
      clear hix hs hsz h hl
      go_enter Tryd.func18, Tryd.ntmps18
      go_wp2
      go_ret
      exact ⟨by rw [HR.out]; rfl, rfl⟩
    · cases l with
      | nil => simp at h'
      | cons a r =>
        have h48 : a.toNat = 48 := by simpa using h
        have h0 := fun w' => hix 0 (by simp) w'
        simp only [List.getElem_cons_zero, h48] at h0
        have h0' : ∀ w', (Instr.index 9 (.string s) (.int .i64 0)).run Tryd.prog w' = .ok (.int .u8 48) w' := h0
        have hz : (1 : Int) < (s.size : Int) := by omega
        have hz0 : ((s.size : Int) == 0) = false := by rw [beq_eq_false_iff_ne]; omega
        have hz2 : (s.size : Int) ≤ 100000 := by omega
        clear hix hs hsz h hl h0 h48 h'
        by_cases h19 : (19 : Int) < (s.size : Int)
        · go_enter Tryd.func18, Tryd.ntmps18
          go_wp2
          go_ret
          exact ⟨by rw [HR.out]; rfl, rfl⟩
        · go_enter Tryd.func18, Tryd.ntmps18
          go_wp2
          go_ret
          exact ⟨by rw [HR.out]; rfl, rfl⟩
  · have HZ : Hid (numR l = numFold 0 l) := Lib.hid (by unfold numR; rw [if_neg hbad])
    have hpos : 0 < l.length := by omega
    have h19 : l.length ≤ 19 := by omega
    obtain ⟨a, ha⟩ : ∃ a, a = l[0].toNat := ⟨_, rfl⟩
    have h0 := fun w' => hix 0 hpos w'
    rw [← ha] at h0
    have h0' : ∀ w', (Instr.index 9 (.string s) (.int .i64 0)).run Tryd.prog w' = .ok (.int .u8 (a : Int)) w' := h0
    have hal : a < 256 := by rw [ha]; exact (l[0]).toNat_lt
    have hsi1 : (0 : Int) < (s.size : Int) := by omega
    have hz0 : ((s.size : Int) == 0) = false := by rw [beq_eq_false_iff_ne]; omega
    have hsi2 : (s.size : Int) ≤ 19 := by omega
    have hcond : (a = 48 ∧ ¬ (1 : Int) < (s.size : Int)) ∨ ¬ a = 48 := by
      by_cases h48 : a = 48
      · refine Or.inl ⟨h48, fun h => hbad (Or.inr (Or.inr ⟨?_, by omega⟩))⟩
        cases l with
        | nil => simp at hpos
        | cons x r => simp at ha ⊢; omega
      · exact Or.inr h48
    have hlen : (s.size : Int) = (l.length : Int) := by omega
    have HIX := Lib.hid hix
    have HSZ := Lib.hid hsz
    clear hix hs hsz hbad ha h0 hl hlen
    have hh : ∃ b : Bool, ((a : Int) == 48) = b ∧ (b = true → ¬ (1 : Int) < (s.size : Int)) := by
      refine ⟨_, rfl, fun h => ?_⟩
      have : a = 48 := by
        have h3 : (a : Int) = 48 := by simpa using h
        omega
      rcases hcond with h2 | h2
      · exact h2.2
      · exact absurd this h2
    obtain ⟨b, hb, hb1⟩ := hh
    clear hcond
    cases b
    all_goals
      first | have hb1 := hb1 rfl | clear hb1
      go_enter Tryd.func18, Tryd.ntmps18
      go_wp2
      go_loop [3, 4] (fun vn vi => ∃ (acc i : Nat), vn = .int .i64 (acc : Int) ∧ vi = .int .i64 (i : Int) ∧ i ≤ l.length ∧ acc < 9223372036854775808 ∧ Hid (numR l = numFold acc (l.drop i))) (fun _ vi => l.length - (intOf vi).toNat)
      case atStart => exact ⟨0, 0, rfl, rfl, by omega, by omega, by rw [List.drop_zero]; exact HZ.out⟩
      case round =>
        obtain ⟨acc, i, rfl, rfl, hi, hacc, hh⟩ := hrel
        by_cases hlt : i < l.length
        · have hix := fun w' => HIX.out i hlt w'
          have hdrop : l.drop i = l[i] :: l.drop (i + 1) := List.drop_eq_getElem_cons hlt
          have hll : (i : Int) < (s.size : Int) := by rw [HSZ.out]; omega
          have hF := hh.out
          rw [hdrop] at hF
          obtain ⟨x, hx⟩ : ∃ x, x = l[i] := ⟨_, rfl⟩
          rw [← hx] at hix hF
          obtain ⟨cc, hcc⟩ : ∃ cc, cc = x.toNat := ⟨_, rfl⟩
          have hc256 : cc < 256 := by rw [hcc]; exact x.toNat_lt
          simp only [numFold] at hF
          rw [← hcc] at hix hF
          clear hx hcc hdrop hh
          by_cases hdig : cc < 48 ∨ 57 < cc
          · rw [if_pos hdig] at hF
            have HR := Lib.hid (show numZ l = -1 by unfold numZ; rw [hF])
            clear hF
            rcases hdig with hdig | hdig
            · go_wp2
              go_ret
              exact ⟨by rw [HR.out]; rfl, rfl⟩
            · have hn48 : ¬ (cc : Int) < 48 := by omega
              go_wp2
              go_ret
              exact ⟨by rw [HR.out]; rfl, rfl⟩
          · rw [if_neg hdig] at hF
            have d0 : (48 : Int) ≤ (cc : Int) := by omega
            have d1 : (cc : Int) ≤ 57 := by omega
            have e1 : (9223372036854775807 - ((cc : Int) - 48)) / 10 = (((9223372036854775807 - (cc - 48)) / 10 : Nat) : Int) := by omega
            have e2 : (9223372036854775807 - ((cc : Int) - 48)).tdiv 10 = (((9223372036854775807 - (cc - 48)) / 10 : Nat) : Int) := by rw [Int.tdiv_eq_ediv_of_nonneg (by omega)]; exact e1
            by_cases hov : (9223372036854775807 - (cc - 48)) / 10 < acc
            · rw [if_pos hov] at hF
              have HR := Lib.hid (show numZ l = -1 by unfold numZ; rw [hF])
              obtain ⟨lim, hlim⟩ : ∃ lim, lim = (9223372036854775807 - (cc - 48)) / 10 := ⟨_, rfl⟩
              rw [← hlim] at e1 e2 hov
              clear hF hlim hdig
              go_wp2
              go_ret
              exact ⟨by rw [HR.out]; rfl, rfl⟩
            · rw [if_neg hov] at hF
              have HN := Lib.hid hF
              have hnew : 10 * acc + (cc - 48) < 9223372036854775808 := by omega
              have hnz : 10 * (acc : Int) + ((cc : Int) - 48) = ((10 * acc + (cc - 48) : Nat) : Int) := by omega
              have hacc10 : 10 * (acc : Int) ≤ 9223372036854775807 := by omega
              obtain ⟨lim, hlim⟩ : ∃ lim, lim = (9223372036854775807 - (cc - 48)) / 10 := ⟨_, rfl⟩
              rw [← hlim] at e1 e2 hov
              obtain ⟨nw, hnw⟩ : ∃ nw, nw = 10 * acc + (cc - 48) := ⟨_, rfl⟩
              rw [← hnw] at hnew hnz HN
              clear hF hlim hdig hnw
              go_wp2
              refine ⟨⟨nw, i + 1, by rw [← hnz], by go_num, by omega, hnew, HN.out⟩, by simp [intOf]; omega⟩
        · have hF := hh.out
          rw [List.drop_eq_nil_of_le (by omega)] at hF
          simp only [numFold] at hF
          have HR := Lib.hid (show numZ l = (acc : Int) by unfold numZ; rw [hF])
          have hll : ¬ (i : Int) < (s.size : Int) := by rw [HSZ.out]; omega
          clear hF hh
          go_wp2
          go_ret
          exact ⟨by rw [HR.out]; rfl, rfl⟩
end Go.Proofs.YtamhpikjnieeeaaDoor
