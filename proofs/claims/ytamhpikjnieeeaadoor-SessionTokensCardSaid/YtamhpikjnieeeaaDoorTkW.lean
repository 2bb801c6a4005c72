/- The reference's Verify. Conditions: the texts are not huge. -/
import Derived.Test.YtamhpikjnieeeaaDoorTkR
import Derived.Test.YtamhpikjnieeeaaDoorStableG
import Derived.Deep.Cut
import Derived.StillTailTactics
namespace Go.Proofs.YtamhpikjnieeeaaDoor
open Go.RowKit Go.Shelf

def strV (l : List ByteArray) : List Value := l.map Value.string
theorem strV_length (l : List ByteArray) : (strV l).length = l.length := by simp [strV]
theorem info9 : (Tryd.prog.info? 9).map (fun i => (i.zero, i.size, i.bytes)) = some (some (.string ByteArray.empty), 1, 16) := by kernel_rfl
theorem own_set0 {w : World} {base g n c i : Nat} {e : TypeId} {xs : List Value} {u : Value} (h : w.ownsRow base e 1 (.slice (some ⟨g, 0, none⟩) n c) n xs) (_hi : i < n) : (w.setCell ⟨g, i, none⟩ u).ownsRow base e 1 (.slice (some ⟨g, 0, none⟩) n c) n (xs.set i u) := by
  obtain ⟨h1, h2⟩ := h
  refine ⟨by rw [List.length_set]; exact h1, ?_⟩
  rcases h2 with ⟨h3, _⟩ | ⟨g', cap, cur, h3, hb, hc, hnc, hm, hs, ht⟩
  · cases h3
  · simp only [Value.slice.injEq, Option.some.injEq, Addr.mk.injEq, and_true, true_and] at h3
    obtain ⟨rfl, rfl⟩ := h3
    have hbk : Bk w g e cur := hc
    refine Or.inr ⟨g, c, cur.setIfInBounds i u, rfl, hb, hbk.put i u, hnc, hm, by simpa using hs, ?_⟩
    rw [Array.toList_setIfInBounds, List.take_set, ht]
theorem own_cell {w : World} {base n c : Nat} {e : TypeId} {A : Option Addr} {xs : List Value} (h : w.ownsRow base e 1 (.slice A n c) n xs) (hn : 0 < n) : ∃ g, A = some ⟨g, 0, none⟩ ∧ base ≤ g ∧ g < w.heap.size ∧ (∀ i, i < n → w.cell? ⟨g, i, none⟩ = xs[i]?) ∧ (∀ i, w.frozen? ⟨g, i, none⟩ = false) := by
  obtain ⟨h1, h2⟩ := h
  rcases h2 with ⟨_, h3⟩ | ⟨g, cap, cur, h3, hb, hc, hnc, hm, hs, ht⟩
  · omega
  · simp only [Value.slice.injEq] at h3
    have hbk : Bk w g e cur := hc
    refine ⟨g, h3.1, hb, hbk.lt, fun i hi => ?_, fun i => hbk.frozen i⟩
    rw [hbk.cell i, ← ht]
    rw [← Array.getElem?_toList, List.getElem?_take, if_pos (by omega)]
theorem split_three {l p q r : List UInt8} (h : partsD l = some (p, q, r)) : splitD l = [p, q, r] ∧ p = pD l ∧ q = qD l ∧ fD l = true ∧ (cutD (rD l)).2.2 = false := by
  have h2 := parts_cut l
  rw [h] at h2
  split at h2
  · rename_i hc
    simp only [Option.some.injEq, Prod.mk.injEq] at h2
    refine ⟨?_, h2.1, h2.2.1, hc.1, hc.2⟩
    unfold partsD at h
    split at h
    · rename_i a b c hs
      simp only [Option.some.injEq, Prod.mk.injEq] at h
      rw [hs, h.1, h.2.1, h.2.2]
    · cases h
  · cases h2
theorem split_not {l : List UInt8} (h : partsD l = none) : (splitD l).length ≠ 3 ∧ okD l = false := by
  have h2 := parts_cut l
  rw [h] at h2
  constructor
  · intro h3
    unfold partsD at h
    split at h
    · cases h
    · rename_i hn
      match hs : splitD l with
      | [] => rw [hs] at h3; simp at h3
      | [a] => rw [hs] at h3; simp at h3
      | [a, b] => rw [hs] at h3; simp at h3
      | [a, b, c] => exact hn a b c hs
      | a :: b :: c :: d :: t => rw [hs] at h3; simp at h3
  · split at h2
    · cases h2
    · rename_i hc
      unfold okD fD rD
      cases h4 : (cutD (cutD l).2.1).2.2
      · rfl
      · cases h5 : (cutD (cutD (cutD l).2.1).2.1).2.2
        · exact absurd ⟨h4, h5⟩ hc
        · simp
def nwF (c : List Value) (i : Nat) (v _u : Value) (_w : World) : Prop :=
  match c[i]? with
  | some x => v = x
  | none => True
theorem is_dot {x : UInt8} (h : x.toNat = 46) : x = 46 := UInt8.toNat_inj.1 h
def baL (L : List (List UInt8)) : List ByteArray := L.map fun x => ⟨x.toArray⟩
theorem baL_length (L : List (List UInt8)) : (baL L).length = L.length := by simp [baL]
theorem sepd_len : ∀ (l : List UInt8), ∀ x ∈ splitD l, x.length ≤ l.length
  | [], x, h => by simp [splitD] at h; subst h; simp
  | c :: r, x, h => by
    have ih := sepd_len r
    simp only [splitD] at h
    split at h
    · rcases List.mem_cons.1 h with h | h
      · subst h; simp
      · have := ih x h; simp; omega
    · split at h
      · rename_i a t hs
        rw [hs] at ih
        rcases List.mem_cons.1 h with h | h
        · subst h; have := ih a (by simp); simp; omega
        · have := ih x (by simp [h]); simp; omega
      · simp at h; subst h; simp
theorem sepd_count : ∀ (l : List UInt8), (splitD l).length ≤ l.length + 1
  | [] => by simp [splitD]
  | c :: r => by
    have ih := sepd_count r
    simp only [splitD]
    split
    · simp; omega
    · split
      · rename_i a t hs; rw [hs] at ih; simp at ih ⊢; omega
      · simp
set_option maxRecDepth 100000 in
set_option maxHeartbeats 2000000 in
theorem rverify_any (A : Option Addr) (n c : Nat) (key : List Nat) (hn : n = key.length) (h100 : n ≤ 100) (l : List UInt8) (hl : l.length ≤ 1000) (now : Int) (h0 : -9223372036854775808 ≤ now) (h1 : now ≤ 9223372036854775807) (w : World) (hA : Seg w A (u8s key)) (hk : ∀ x ∈ key, x < 256) :
    Calls Tryd.prog 7 #[.slice A n c, .string ⟨l.toArray⟩, .int .i64 now] w fun e w' => e = .returned (.tuple #[.string (verV key l now), .int .i64 (verE key l now)]) ∧ Below w.heap.size w w' := by
  obtain ⟨i0, hi0, hz0, hz1, hz2⟩ := info_parts info9
  obtain ⟨s, hs⟩ : ∃ s : ByteArray, s = ⟨l.toArray⟩ := ⟨_, rfl⟩
  have hsz : s.size = l.length := by rw [hs]; show l.toArray.size = _; simp
  have HIX := Lib.hid (fun k hk w' => idx_l l s hs k hk w')
  have HSL : Hid (∀ (k : Nat) (hk : k < l.length) w', (Instr.slice 9 (.string s) (some (.int .i64 (k : Int))) (some (.int .i64 ((k : Int) + 1))) none).run Tryd.prog w' = .ok (.string ⟨#[l[k]]⟩) w') := Lib.hid (fun k hk w' => by
    rw [run_slice_string w' 9 s .i64 .i64 (k : Int) ((k : Int) + 1) Tryd.underlying9 (by omega) (by omega) (by omega), Int.toNat_natCast, show ((k : Int) + 1).toNat = k + 1 by omega]
    congr 2
    rw [hs]
    apply ByteArray.ext
    rw [ByteArray.data_extract]
    apply Array.toList_inj.1
    simp only [List.toList_toArray, Array.toList_extract, List.extract_eq_take_drop]
    rw [show k + 1 - k = 1 by omega, List.drop_eq_getElem_cons hk]
    rfl)
  have HSZ := Lib.hid hsz
  have HS := Lib.hid hs
  have HA := Lib.hid hA
  have HK := Lib.hid (And.intro hk hn)
  rw [← hs]
  clear hs hsz hA hk hn
  go_enter Tryd.func7, Tryd.ntmps7
  go_wp2_with fail
  have hstart := World.ownsRow_lit (w := w) (base := w.heap.size) (e := 9) (size := 1) #[.string ByteArray.empty] 1 (Nat.le_refl _) (by decide) rfl
  go_loopw [8, 9] (fun v i wr => ∃ k : Nat, k ≤ l.length ∧ i = .int .i64 k ∧ wr.ownsRow w.heap.size 9 1 v (splitD (l.take k)).length (strV (baL (splitD (l.take k)))) ∧ Below w.heap.size w wr) (fun _ i _ => l.length - (intOf i).toNat)
  case atStart => exact ⟨0, by omega, rfl, hstart, (Below.refl _ _).alloc (Nat.le_refl _) _⟩
  case round =>
    obtain ⟨k, hk, rfl, hown, hb⟩ := hrel
    have HO := Lib.hid hown
    have HW := Lib.hid hb
    have hwsz := hb.size
    have hcnt : (splitD (l.take k)).length ≤ 1001 := by have := sepd_count (l.take k); simp at this; omega
    obtain ⟨A1, c1, rfl, hc1, _⟩ := own_shape hown
    clear hown hb hstart
    by_cases hlt : k < l.length
    · have hll : (k : Int) < (s.size : Int) := by rw [HSZ.out]; omega
      have hix := fun w' => HIX.out k hlt w'
      have hslc := fun w' => HSL.out k hlt w'
      have hstep := split_app l[k] (l.take k)
      rw [← List.take_succ_eq_append_getElem hlt] at hstep
      obtain ⟨x, hx⟩ : ∃ x, x = l[k] := ⟨_, rfl⟩
      rw [← hx] at hix hslc hstep
      clear hx
      obtain ⟨P, hP⟩ : ∃ P, P = splitD (l.take k) := ⟨_, rfl⟩
      have hPne : P ≠ [] := by rw [hP]; exact split_pos _
      have hPl : ∀ y ∈ P, y.length ≤ 1000 := fun y hy => by rw [hP] at hy; have := sepd_len _ y hy; simp at this; omega
      rw [← hP] at HO hcnt hstep hc1 ⊢
      have HST := Lib.hid hstep
      clear hP hstep
      by_cases hdot : x = 46
      · subst hdot
        have HG := Lib.hid (show strV (baL (grow P 46)) = strV (baL P) ++ [.string ByteArray.empty] ∧ (grow P 46).length = P.length + 1 by unfold grow; rw [if_pos rfl]; exact ⟨by simp [strV, baL]; rfl, by simp⟩)
        clear hPne hPl hslc
        have hix' : ∀ w', (Instr.index 9 (.string s) (.int .i64 (k : Int))).run Tryd.prog w' = .ok (.int .u8 46) w' := hix
        clear hix
        go_wp2_with (at_builtin; refine wpList_append_seg _ rfl _ _ _ rfl w.heap.size 9 i0 _ 16 Tryd.underlying40 hi0 hz0 hz1 hz2 rfl _ P.length _ rfl (own_alloc HO.out _) (some ⟨wr.heap.size, 0, none⟩) 1 1 [.string ByteArray.empty] rfl rfl (seg_new _ _ _) (by simp [Value.oneCell']) (by simp only [maxLen]; omega) (by omega) (by simp only [World.size_alloc]; omega) ?_; intro v' w2 hown1 hb1)
        go_roundw
        case rel => exact ⟨k + 1, by omega, by go_num, by rw [HST.out, HG.out.1, HG.out.2]; exact hown1, (HW.out.alloc hwsz _).trans hb1⟩
        case measure => simp [intOf]; omega
      · have hxx : ((x.toNat : Int) == 46) = false := by
          rw [beq_eq_false_iff_ne]; intro e; exact hdot (is_dot (by omega))
        obtain ⟨Q, y, rfl⟩ : ∃ Q y, P = Q ++ [y] := ⟨P.dropLast, P.getLast hPne, (List.dropLast_concat_getLast hPne).symm⟩
        have HG := Lib.hid (show grow (Q ++ [y]) x = Q ++ [y ++ [x]] by unfold grow; rw [if_neg hdot]; simp)
        have hyl := hPl y (by simp)
        have hQl : (Q ++ [y]).length = Q.length + 1 := by simp
        rw [hQl] at HO hcnt hc1 ⊢
        obtain ⟨g, rfl, hgb, hgl, hcell, hfz⟩ := own_cell HO.out (by omega)
        have y0 : wr.cell? ⟨g, Q.length, none⟩ = some (.string ⟨y.toArray⟩) := by rw [hcell Q.length (by omega)]; simp [strV, baL]
        have f0 := hfz Q.length
        have hadd : ∀ w', (Op.stringOp .add ⟨y.toArray⟩ ⟨#[x]⟩).run Tryd.prog w' = .ok (.string ⟨(y ++ [x]).toArray⟩) w' := fun w' => by
          rw [run_string_add_sum (P := Tryd.prog) w' _ _ (by show y.toArray.size + 1 ≤ _; simp; omega), show (⟨y.toArray⟩ : ByteArray) ++ ⟨#[x]⟩ = ⟨(y ++ [x]).toArray⟩ by apply ByteArray.ext; rw [ByteArray.data_append]; simp]
        obtain ⟨ys, hys⟩ : ∃ ys : ByteArray, ys = ⟨y.toArray⟩ := ⟨_, rfl⟩
        obtain ⟨yx, hyx⟩ : ∃ yx : ByteArray, yx = ⟨(y ++ [x]).toArray⟩ := ⟨_, rfl⟩
        rw [← hys] at y0 hadd
        rw [← hyx] at hadd
        have HSET := Lib.hid (show (strV (baL (Q ++ [y]))).set Q.length (.string yx) = strV (baL (Q ++ [y ++ [x]])) by rw [hyx]; simp [strV, baL])
        have q1 : ((Q.length + 1 : Nat) : Int) - 1 = (Q.length : Int) := by omega
        have q2 : (((Q.length : Int) + 1) - 1) = (Q.length : Int) := by omega
        obtain ⟨m, hm⟩ : ∃ m, m = Q.length := ⟨_, rfl⟩
        have HM := Lib.hid hm
        rw [← hm] at y0 f0 HO hcnt hc1 q1 q2 HSET ⊢
        have q3 : IntKind.i64.wrap (m : Int) = (m : Int) := by rw [IntKind.wrap_i64]; omega
        have q4 : IntKind.i64.wrap ((k : Int) + 1) = (k : Int) + 1 := by rw [IntKind.wrap_i64]; omega
        have i1 : (0 : Int) ≤ (m : Int) := by omega
        have i2 : (m : Int) < (m : Int) + 1 := by omega
        have i3 : (m : Int) < ((m + 1 : Nat) : Int) := by omega
        clear hys hyx hPl hPne hdot hcell hfz hQl hm hyl q1 q2
        go_wp2_with fail
        go_still_tail 13, (by kernel_rfl)
        change wpList _ _ _ _ _ wr.drew
        have HO2 := Lib.hid (own_set0 (u := .string yx) (show wr.drew.ownsRow w.heap.size 9 1 (.slice (some ⟨g, 0, none⟩) (m + 1) c1) (m + 1) _ from HO.out) (show m < m + 1 by omega))
        have HW2 := Lib.hid ((below_drewN HW.out 1).setCell (p := ⟨g, m, none⟩) hgb (.string yx))
        go_wp2_with fail
        go_roundw
        case rel => exact ⟨k + 1, by omega, by go_num, by rw [HST.out, HG.out, ← HSET.out, show (Q ++ [y ++ [x]]).length = m + 1 by rw [HM.out]; simp]; exact HO2.out, HW2.out⟩
        case measure => simp [intOf]; omega
    · obtain rfl : k = l.length := by omega
      rw [List.take_length] at HO hcnt hc1 ⊢
      have hll : ¬ ((l.length : Nat) : Int) < (s.size : Int) := by rw [HSZ.out]; omega
      have HIX0 := HIX
      clear HIX HSL HIX0
      cases hp : partsD l with
      | none =>
        obtain ⟨h3, hok⟩ := split_not hp
        have HR := Lib.hid (show verV key l now = ⟨#[]⟩ ∧ verE key l now = 3 by unfold verV verE; rw [hok]; exact ⟨if_neg (fun h => by cases h.1), rfl⟩)
        obtain ⟨m, hm⟩ : ∃ m, m = (splitD l).length := ⟨_, rfl⟩
        rw [← hm] at h3 hcnt ⊢
        have h33 : ((m : Int) != 3) = true := by rw [bne_iff_ne]; omega
        clear hm h3 hp hok
        go_wp2_with fail
        go_ret2
        exact ⟨by rw [HR.out.1, HR.out.2]; rfl, HW.out⟩
      | some t =>
        obtain ⟨p', q', r'⟩ := t
        obtain ⟨hsp, hpp, hqq, hf, hr⟩ := split_three hp
        have hlp : p'.length ≤ 1000 := by have := sepd_len l p' (by rw [hsp]; simp); omega
        have hlq : q'.length ≤ 1000 := by have := sepd_len l q' (by rw [hsp]; simp); omega
        rw [hsp] at HO hc1 ⊢
        obtain ⟨g, rfl, hgb, hgl, hcell, _⟩ := own_cell (n := 3) HO.out (by decide)
        obtain ⟨p, hpe⟩ : ∃ p : ByteArray, p = ⟨p'.toArray⟩ := ⟨_, rfl⟩
        obtain ⟨q, hqe⟩ : ∃ q : ByteArray, q = ⟨q'.toArray⟩ := ⟨_, rfl⟩
        have y0 : wr.cell? ⟨g, 0, none⟩ = some (.string p) := by rw [hcell 0 (by decide), hpe]; rfl
        have y1 : wr.cell? ⟨g, 1, none⟩ = some (.string q) := by rw [hcell 1 (by decide), hqe]; rfl
        have hpz : p.size ≤ 1000 := by rw [hpe]; show p'.toArray.size ≤ _; simp; omega
        have CNm : Hid (∀ w', Calls Tryd.prog 10 #[.string p] w' fun e w2 => e = .returned (.bool (nameB p)) ∧ w' = w2) := Lib.hid (fun w' => (rname_any p (by omega) w').mono fun e w2 ⟨h, hw⟩ => ⟨h, hw.symm⟩)
        have CN := Lib.hid (fun w' => rnumber_any q' (by omega) w')
        rw [← hqe] at CN
        have hok : okD l = (nameB p && (numR q').isSome) := by unfold okD; rw [hf, hr, ← hpp, ← hqq, ← hpe]; cases nameB p <;> cases (numR q').isSome <;> rfl
        have hVE : verV key l now = (if okD l = true ∧ tokT key p (((numR q').getD 0 : Nat) : Int) = s ∧ now < (((numR q').getD 0 : Nat) : Int) then p else ⟨#[]⟩) ∧ verE key l now = (if okD l = false then 3 else if tokT key p (((numR q').getD 0 : Nat) : Int) ≠ s then 8 else if (((numR q').getD 0 : Nat) : Int) ≤ now then 10 else 0) := by
          rw [hpe, HS.out, hpp, hqq]; exact ⟨rfl, rfl⟩
        have HPZ := Lib.hid hpz
        have HCell : Hid (∀ w1, Below wr.heap.size wr w1 → w1.cell? ⟨g, 0, none⟩ = some (.string p) ∧ w1.cell? ⟨g, 1, none⟩ = some (.string q)) := Lib.hid (fun w1 hb => ⟨(hb.cell (show (⟨g, 0, none⟩ : Addr).block < wr.heap.size from hgl)).trans y0, (hb.cell (show (⟨g, 1, none⟩ : Addr).block < wr.heap.size from hgl)).trans y1⟩)
        clear hp hsp hpp hqq hf hr hlp hlq hcell hpe hqe hpz
        cases hnm : nameB p
        · rw [hnm] at hok CNm
          rw [hok, Bool.false_and] at hVE
          have HR := Lib.hid (show verV key l now = ⟨#[]⟩ ∧ verE key l now = 3 from ⟨hVE.1.trans (if_neg (fun h => by cases h.1)), hVE.2⟩)
          clear hVE hok hnm CN
          go_wp2_with (go_at_call 10; refine (CNm.out _).mono ?_; rintro e w' ⟨rfl, rfl⟩)
          go_ret2
          exact ⟨by rw [HR.out.1, HR.out.2]; rfl, HW.out⟩
        · rw [hnm] at hok CNm
          rw [hok, Bool.true_and] at hVE
          cases hnum : numR q' with
          | none =>
            rw [hnum] at hVE
            have HR := Lib.hid (show verV key l now = ⟨#[]⟩ ∧ verE key l now = 3 from ⟨hVE.1.trans (if_neg (fun h => by cases h.1)), hVE.2⟩)
            have hz : numZ q' = -1 := by unfold numZ; rw [hnum]
            rw [hz] at CN
            clear hVE hok hnm hnum hz
            go_wp2_with (first
              | (go_at_call 10; refine (CNm.out _).mono ?_; rintro e w' ⟨rfl, rfl⟩)
              | (go_at_call 18; refine (CN.out _).mono ?_; rintro e w' ⟨rfl, rfl⟩))
            go_ret2
            exact ⟨by rw [HR.out.1, HR.out.2]; rfl, HW.out⟩
          | some u =>
            have hu64 := (num_dec hnum).2
            rw [hnum] at hVE
            simp only [Option.getD_some, Option.isSome_some, true_and, Bool.true_eq_false, if_false] at hVE
            have hz : numZ q' = (u : Int) := by unfold numZ; rw [hnum]
            rw [hz] at CN
            obtain ⟨T, hT⟩ : ∃ T, T = tokT key p (u : Int) := ⟨_, rfl⟩
            have CT : Hid (∀ W, Below wr.heap.size wr W → Calls Tryd.prog 11 #[.slice A n c, .string p, .int .i64 (u : Int)] W fun e w' => e = .returned (.string T) ∧ Below W.heap.size W w') := Lib.hid (fun W hW => by
              rw [hT]
              exact rtok_any A n c key HK.out.2 h100 p HPZ.out (u : Int) (by omega) (by omega) W (HA.out.bel (HW.out.trans (hW.mono HW.out.size))) HK.out.1)
            rw [← hT] at hVE
            have HVE := Lib.hid hVE
            have B8 := Lib.hid HW.out
            clear hVE hok hnm hnum hz hT HO hcnt hc1
            go_upto_region 10 with (first
              | (go_at_call 10; refine (CNm.out _).mono ?_; rintro e w' ⟨rfl, rfl⟩)
              | (go_at_call 18; refine (CN.out _).mono ?_; rintro e w' ⟨rfl, rfl⟩))
            clear y0 y1
            refine wp_region_guarded [some 54, some 55, some 56, some 57, some 58, some 59, some 60, some 61, some 62, some 63, some 64] (fun _ => 0) (nwF [.slice A n c, .slice (some ⟨g, 0, none⟩) 3 c1, .pointer (some ⟨g, 0, none⟩), .string p, .slice (some ⟨g, 0, none⟩) 3 c1, .pointer (some ⟨g, 1, none⟩), .string q, .int .i64 (u : Int), .string T, .string s, .bool (!(T.toList == s.toList))]) (fun w' => Below wr.heap.size wr w') (by kernel_rfl) (below_drewN (Below.refl _ _) 1) rfl (by kernel_rfl) (by kernel_rfl) (by kernel_rfl) (fun T' hT' => ?_)
            simp only [List.filterMap_cons, List.filterMap_nil, id, putsS, Act.put, List.setIfInBounds_toArray, List.set_cons_zero, List.set_cons_succ] at hT'
            subst hT'
            refine ⟨⟨?_, ?_, ?_, ?_, ?_, ?_, ?_, ?_, ?_, ?_, ?_, trivial⟩, ?_⟩
            · refine StepA.guarded rfl ?_
              intro f w1 hG hF K hK
              clear hF
              dsimp only at hK ⊢
              go_simp
              exact hK.out _ _ hG rfl (fun _ _ _ h => h)
            · refine StepA.guarded rfl ?_
              intro f w1 hG hF K hK
              clear hF
              dsimp only at hK ⊢
              go_simp
              exact hK.out _ _ hG rfl (fun _ _ _ h => h)
            · refine StepA.guarded rfl ?_
              intro f w1 hG hF K hK
              have d1 : f 55 = .slice (some ⟨g, 0, none⟩) 3 c1 := hF 1 (by kernel_rfl)
              clear hF
              dsimp only at hK ⊢
              generalize f 55 = v55 at *
              subst d1
              go_simp
              exact hK.out _ _ hG rfl (fun _ _ _ h => h)
            · refine StepA.guarded rfl ?_
              intro f w1 hG hF K hK
              have d2 : f 56 = .pointer (some ⟨g, 0, none⟩) := hF 2 (by kernel_rfl)
              clear hF
              dsimp only at hK ⊢
              generalize f 56 = v56 at *
              subst d2
              have yc := HCell.out w1 hG
              have y0 := yc.1
              clear yc
              go_simp
              exact hK.out _ _ hG rfl (fun _ _ _ h => h)
            · refine StepA.guarded rfl ?_
              intro f w1 hG hF K hK
              clear hF
              dsimp only at hK ⊢
              go_simp
              exact hK.out _ _ hG rfl (fun _ _ _ h => h)
            · refine StepA.guarded rfl ?_
              intro f w1 hG hF K hK
              have d4 : f 58 = .slice (some ⟨g, 0, none⟩) 3 c1 := hF 4 (by kernel_rfl)
              clear hF
              dsimp only at hK ⊢
              generalize f 58 = v58 at *
              subst d4
              go_simp
              exact hK.out _ _ hG rfl (fun _ _ _ h => h)
            · refine StepA.guarded rfl ?_
              intro f w1 hG hF K hK
              have d5 : f 59 = .pointer (some ⟨g, 1, none⟩) := hF 5 (by kernel_rfl)
              clear hF
              dsimp only at hK ⊢
              generalize f 59 = v59 at *
              subst d5
              have yc := HCell.out w1 hG
              have y1 := yc.2
              clear yc
              go_simp
              exact hK.out _ _ hG rfl (fun _ _ _ h => h)
            · refine StepA.guarded rfl ?_
              intro f w1 hG hF K hK
              have d6 : f 60 = .string q := hF 6 (by kernel_rfl)
              clear hF
              dsimp only at hK ⊢
              generalize f 60 = v60 at *
              subst d6
              go_simp
              refine (CN.out w1).mono ?_
              rintro e w20 ⟨rfl, rfl⟩
              exact hK.out _ _ hG rfl (fun _ _ _ h => h)
            · refine StepA.guarded rfl ?_
              intro f w1 hG hF K hK
              have d0 : f 54 = .slice A n c := hF 0 (by kernel_rfl)
              have d3 : f 57 = .string p := hF 3 (by kernel_rfl)
              have d7 : f 61 = .int .i64 (u : Int) := hF 7 (by kernel_rfl)
              clear hF
              dsimp only at hK ⊢
              generalize f 54 = v54 at *
              generalize f 57 = v57 at *
              generalize f 61 = v61 at *
              subst d0
              subst d3
              subst d7
              go_simp
              refine (CT.out _ hG).mono ?_
              rintro e w20 ⟨rfl, hb20⟩
              exact hK.out _ _ (hG.trans (hb20.mono hG.size)) rfl (fun _ _ _ h => h)
            · refine StepA.guarded rfl ?_
              intro f w1 hG hF K hK
              clear hF
              dsimp only at hK ⊢
              go_simp
              exact hK.out _ _ hG rfl (fun _ _ _ h => h)
            · refine StepA.guarded rfl ?_
              intro f w1 hG hF K hK
              have d8 : f 62 = .string T := hF 8 (by kernel_rfl)
              have d9 : f 63 = .string s := hF 9 (by kernel_rfl)
              clear hF
              dsimp only at hK ⊢
              generalize f 62 = v62 at *
              generalize f 63 = v63 at *
              subst d8
              subst d9
              go_simp
              exact hK.out _ _ hG rfl (fun _ _ _ h => h)
            intro f w20 hG hF
            have e10 : f 64 = .bool (!(T.toList == s.toList)) := hF 10 (by decide)
            have HB9 := Lib.hid (below_step B8.out hG)
            have HC9 := Lib.hid (HCell.out w20 hG)
            clear hF hG
            dsimp only
            generalize f 54 = v54
            generalize f 55 = v55
            generalize f 56 = v56
            generalize f 57 = v57
            generalize f 58 = v58
            generalize f 59 = v59
            generalize f 60 = v60
            generalize f 61 = v61
            generalize f 62 = v62
            generalize f 63 = v63
            generalize f 64 = v64 at *
            subst e10
            obtain ⟨nb, hnb⟩ : ∃ nb, nb = (!(T.toList == s.toList)) := ⟨_, rfl⟩
            rw [← hnb]
            have y0 := HC9.out.1
            have y1 := HC9.out.2
            by_cases he : T = s
            · obtain rfl : nb = false := by rw [hnb, beq_of, decide_eq_true he]; rfl
              clear hnb
              obtain ⟨hV, hE⟩ := HVE.out
              rw [if_neg (fun h => h he)] at hE
              by_cases hnow : now < (u : Int)
              · rw [if_pos ⟨he, hnow⟩] at hV
                rw [if_neg (by omega)] at hE
                have HR := Lib.hid (And.intro hV hE)
                clear hV hE he
                go_wp2_with (go_at_call 18; refine (CN.out _).mono ?_; rintro e w' ⟨rfl, rfl⟩)
                go_ret2
                exact ⟨by rw [HR.out.1, HR.out.2]; rfl, HB9.out⟩
              · rw [if_neg (fun h => hnow h.2)] at hV
                rw [if_pos (by omega)] at hE
                have HR := Lib.hid (And.intro hV hE)
                clear hV hE he
                go_wp2_with (go_at_call 18; refine (CN.out _).mono ?_; rintro e w' ⟨rfl, rfl⟩)
                go_ret2
                exact ⟨by rw [HR.out.1, HR.out.2]; rfl, HB9.out⟩
            · obtain rfl : nb = true := by rw [hnb, beq_of, decide_eq_false he]; rfl
              clear hnb
              obtain ⟨hV, hE⟩ := HVE.out
              rw [if_neg (fun h => he h.1)] at hV
              rw [if_pos he] at hE
              have HR := Lib.hid (And.intro hV hE)
              clear hV hE he
              go_wp2_with fail
              go_ret2
              exact ⟨by rw [HR.out.1, HR.out.2]; rfl, HB9.out⟩
end Go.Proofs.YtamhpikjnieeeaaDoor
