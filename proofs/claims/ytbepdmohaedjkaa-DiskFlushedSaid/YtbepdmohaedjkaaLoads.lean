/- The walk of DiskLoads. Condition: the image lies in memory. -/
import Derived.Test.YtbepdmohaedjkaaDiskN
namespace Go.Proofs.Ytbepdmohaedjkaa
open Go.RowKit

section
variable {w w' : World}
/-- Bytes of one's own that are all set to one byte, one by one: what the rest is told of. -/
def Scrap (w0 w : World) (g n c : Nat) (S : Nat → Prop) (p T : Nat) (D : DM) : Prop :=
  (∃ xs, w.ownsRow w0.heap.size 5 1 (.slice (some ⟨g, 0, none⟩) n c) n xs) ∧ Below w0.heap.size w0 w ∧ Dsk w S p T D ∧ ¬ S g
theorem Scrap.set {w0 w : World} {g n c : Nat} {S : Nat → Prop} {p T : Nat} {D : DM} (h : Scrap w0 w g n c S p T D) (k : Nat) (_hk : k < n) (x : Int) : Scrap w0 (w.setCell ⟨g, k, none⟩ (.int .u8 x)) g n c S p T D := by
  obtain ⟨⟨xs, h1⟩, h2, h3, h4⟩ := h
  have hg := h1.lt g rfl
  have hkp : Kp (fun i => i = g) (fun _ => False) w (w.setCell ⟨g, k, none⟩ (.int .u8 x)) :=
    ((Kp.refl (fun i => i = g) w).setCell (p := ⟨g, k, none⟩) (.inl rfl) _).mono (fun _ h => h) (fun _ hf => hf.elim)
  exact ⟨⟨_, (h1.stored k _).1⟩, h2.setCell (p := ⟨g, k, none⟩) hg.1 _, h3.kept hkp (fun i hi e => h4 (e ▸ hi)), h4⟩
theorem Scrap.at {w0 w : World} {g n c : Nat} {S : Nat → Prop} {p T : Nat} {D : DM} (h : Scrap w0 w g n c S p T D) (k : Nat) (hk : k < n) : (∃ u, w.cell? ⟨g, k, none⟩ = some u) ∧ w.frozen? ⟨g, k, none⟩ = false := by
  obtain ⟨⟨xs, h1⟩, h2, h3, h4⟩ := h
  refine ⟨⟨xs[k]'(by have := h1.1; omega), ?_⟩, h1.frozenAt k⟩
  rw [h1.cellAt k (by omega)]
  exact List.getElem?_eq_getElem _
theorem _root_.Go.World.ownsRow.base_le {w : World} {b b' size : Nat} {e : TypeId} {v : Value} {n : Nat} {xs : List Value} (h : w.ownsRow b e size v n xs) (hb : b' ≤ b) : w.ownsRow b' e size v n xs := by
  refine ⟨h.1, ?_⟩
  rcases h.2 with h0 | ⟨g, cap, cur, hv, hg, hr⟩
  · exact .inl h0
  · exact .inr ⟨g, cap, cur, hv, Nat.le_trans hb hg, hr⟩
set_option maxRecDepth 100000 in
set_option maxHeartbeats 4000000 in
theorem loads_bad (A : Option Addr) (n c : Nat) (l : List Nat) (x : Int) (hl : n = l.length) (hn : n ≤ 140737488355328) (hS : Seg w A (u8s l)) (hb : ¬ (n % 256 = 0 ∧ 1 ≤ n / 256 ∧ n / 256 ≤ 2048)) :
    Calls Try.prog 4 #[.slice A n c, .int .i64 x] w fun e w' => e = .returned (.bool true) ∧ Below w.heap.size w w' := by
  obtain ⟨j1, hi1, hy0, hy1, hy2⟩ := info_parts info5
  have HLit := Lib.hid (World.ownsRow_lit (base := w.heap.size) (e := 5) (size := 1) w #[] 0 (Nat.le_refl _) (Nat.zero_le _) rfl)
  have HS := Lib.hid (hS.bel ((Below.refl _ _).alloc (Nat.le_refl _) (.cells #[] 5)))
  have HB := Lib.hid ((Below.refl w.heap.size w).alloc (Nat.le_refl _) (.cells #[] 5))
  have HL := Lib.hid (show n = (u8s l).length by rw [u8s_length, hl])
  have HBad := Lib.hid hb
  have hcases : ((n : Int) == 0) = true ∨ (((n : Int) == 0) = false ∧ ((n : Int) % 256 != 0) = true) ∨ (((n : Int) == 0) = false ∧ ((n : Int) % 256 != 0) = false ∧ (524288 : Int) < (n : Int)) := by
    by_cases h0 : n = 0
    · exact .inl (by simp [h0])
    · by_cases h1 : n % 256 = 0
      · exact .inr (.inr ⟨by simp [h0], by simp; omega, by omega⟩)
      · exact .inr (.inl ⟨by simp [h0], by simp; omega⟩)
  clear hl hS hb
  rcases hcases with h1 | ⟨h1, h2⟩ | ⟨h1, h2, h3⟩
  all_goals
    go_enter Try.func4, Try.ntmps4
    go_wp2_with (first
      | (at_builtin; (refine wpList_append_seg _ rfl _ _ _ rfl w.heap.size 5 j1 _ 1 Try.underlying26 hi1 hy0 hy1 hy2 rfl _ 0 [] rfl HLit.out A n c (u8s l) rfl HL.out HS.out (u8s_one _) (by unfold maxLen; omega) (by omega) (by have := HB.out.size; omega) ?_); intro v2 w5 hown hb5; rw [Nat.zero_add, List.nil_append] at hown; obtain ⟨A2, c3, rfl, hcc, hsg⟩ := own_shape hown; have HB5 := Lib.hid (HB.out.trans hb5); clear hown hb5 hcc hsg)
      | (go_at_call 20; refine (load_no _ n _ hn HBad.out _).mono ?_; rintro e w6 ⟨rfl, hb6⟩; have HB6 := Lib.hid (HB5.out.trans (hb6.mono HB5.out.size)); clear hb6)
      | (go_at_call 15; refine awake_any.mono ?_; rintro e w7 ⟨rfl, hb7⟩; have HB7 := Lib.hid (HB6.out.trans (hb7.mono HB6.out.size)); clear hb7))
    go_ret
    exact ⟨rfl, HB7.out⟩
theorem seg_mid {w : World} {b o : Nat} {l : List Nat} (h : Seg w (some ⟨b, o, none⟩) (u8s l)) (k m : Nat) : Seg w (some ⟨b, o + k, none⟩) (u8s ((l.drop k).take m)) := fun hn => by
  have hk : k < l.length := by
    rcases Nat.lt_or_ge k l.length with h | h
    · exact h
    · exact absurd (by rw [List.drop_eq_nil_of_le h]; simp [u8s]) hn
  obtain ⟨b', off, e, hb, hc⟩ := h (by intro e; have := congrArg List.length e; rw [u8s_length, List.length_nil] at this; omega)
  injection e with e
  injection e with e1 e2 _
  subst e1
  subst e2
  refine ⟨b, o + k, rfl, hb, fun i hi => ?_⟩
  rw [u8s_length, List.length_take, List.length_drop] at hi
  have := hc (k + i) (by rw [u8s_length]; omega)
  rw [Nat.add_assoc, this]
  simp [u8s, List.getElem?_drop, show i < m by omega]
theorem rd_made (l : List Nat) (k : Nat) : (DM.made l).rd k = (l.drop (k * 256)).take 256 := rfl
set_option maxRecDepth 100000 in
set_option maxHeartbeats 8000000 in
theorem loads_ok (A : Option Addr) (n c T : Nat) (l : List Nat) (x : Int) (hl : n = l.length) (hT : n = T * 256) (h1 : 1 ≤ T) (h2 : T ≤ 2048) (hnc : n ≤ c) (hS : Seg w A (u8s l)) :
    Calls Try.prog 4 #[.slice A n c, .int .i64 x] w fun e w' => e = .returned (.bool true) ∧ Below w.heap.size w w' := by
  obtain ⟨j1, hi1, hy0, hy1, hy2⟩ := info_parts info5
  obtain ⟨b0, o0, rfl, _, _⟩ := hS (by intro e; have := congrArg List.length e; rw [u8s_length, List.length_nil] at this; omega)
  have HLit := Lib.hid (World.ownsRow_lit (base := w.heap.size) (e := 5) (size := 1) w #[] 0 (Nat.le_refl _) (Nat.zero_le _) rfl)
  have HS := Lib.hid (hS.bel ((Below.refl _ _).alloc (Nat.le_refl _) (.cells #[] 5)))
  have HB := Lib.hid ((Below.refl w.heap.size w).alloc (Nat.le_refl _) (.cells #[] 5))
  have HL := Lib.hid (show n = (u8s l).length by rw [u8s_length, hl])
  have HLL := Lib.hid hl
  have HSS := Lib.hid hS
  have HT := Lib.hid hT
  have g1 : ((n : Int) == 0) = false := by simp; omega
  have g2 : ((n : Int) % 256 != 0) = false := by simp; omega
  have g3 : ¬ (524288 : Int) < (n : Int) := by omega
  have g4 : (n : Int) / 256 = (T : Int) := by omega
  have hm : n ≤ 600000 := by omega
  clear hl hS hT
  go_enter Try.func4, Try.ntmps4
  go_wp2_with (first
      | (at_builtin; (refine wpList_append_seg _ rfl _ _ _ rfl w.heap.size 5 j1 _ 1 Try.underlying26 hi1 hy0 hy1 hy2 rfl _ 0 [] rfl HLit.out (some ⟨b0, o0, none⟩) n c (u8s l) rfl HL.out HS.out (u8s_one _) (by unfold maxLen; omega) (by omega) (by have := HB.out.size; omega) ?_); intro v2 w5 hown hb5; rw [Nat.zero_add, List.nil_append] at hown; obtain ⟨g, c3, rfl, hge, hgl⟩ := hown.form (by omega); have HG := Lib.hid hge; have HGL := Lib.hid hgl; have HOW := Lib.hid hown; have HSG := Lib.hid (Seg.of_own hown); have HB5 := Lib.hid (HB.out.trans hb5); clear hown hb5 hge hgl))
  refine (load_ok _ n c3 T l HLL.out HT.out h1 h2 _ HSG.out).mono ?_
  rintro e w6 ⟨p, S, rfl, hD, hSw, hb6⟩
  have HB6 := Lib.hid (HB5.out.trans (hb6.mono HB5.out.size))
  have HSc := Lib.hid (show Scrap w w6 g n c3 S p T (DM.made l) from ⟨⟨_, own_bel6 HOW.out hb6⟩, HB6.out, hD, fun hs => by have := hSw g hs; have := HGL.out; omega⟩)
  have HSw := Lib.hid (show ∀ i, S i → w.heap.size ≤ i from fun i hi => Nat.le_trans HB5.out.size (hSw i hi))
  clear hD hSw hb6
  go_wp2_with fail
  refine awake_any.mono ?_
  rintro e w7 ⟨rfl, hb7⟩
  have HB7 := Lib.hid (HB6.out.trans (hb7.mono HB6.out.size))
  have HSc7 := Lib.hid (show Scrap w w7 g n c3 S p T (DM.made l) from ⟨⟨_, own_bel6 HSc.out.1.choose_spec hb7⟩, HB7.out, HSc.out.2.2.1.bel hb7, HSc.out.2.2.2⟩)
  have HPd : Hid (Calls Try.prog 22 #[.pointer (some ⟨p, 0, none⟩)] w7 fun e w' => e = .returned (.int .i64 0) ∧ w7 = w') := Lib.hid HSc7.out.2.2.1.pending
  have HBl := Lib.hid HSc7.out.2.2.1.blocks
  clear hb7
  go_wp2_with (first
    | (go_at_call 21; refine HBl.out.mono ?_; rintro e w8 ⟨rfl, rfl⟩)
    | (go_at_call 22; refine HPd.out.mono ?_; rintro e w8 ⟨rfl, rfl⟩))
  have i8 : T * 256 ≤ 524288 := by omega
  go_loopw [69] (fun i wr => ∃ k : Nat, k ≤ n ∧ i = .int .i64 k ∧ Hid (Scrap w wr g n c3 S p T (DM.made l))) (fun i _ => n - (intOf i).toNat)
  case atStart => exact ⟨0, Nat.zero_le _, rfl, HSc7⟩
  case round =>
    obtain ⟨k, hk, rfl, HX⟩ := hrel
    by_cases hlt : k < n
    · have i1 : (k : Int) < (n : Int) := by omega
      obtain ⟨⟨u, cu⟩, fu⟩ := HX.out.at k hlt
      go_wp2_with fail
      exact ⟨⟨k + 1, by omega, by go_num, Lib.hid (HX.out.set k hlt 9)⟩, by simp [intOf]; omega⟩
    · have i1 : ¬ (k : Int) < (n : Int) := by omega
      have HIm := Lib.hid (show Calls Try.prog 23 #[.pointer (some ⟨p, 0, none⟩)] wr fun e w' => ∃ A' c', e = .returned (.slice A' n c') ∧ n ≤ c' ∧ w'.ownsRow wr.heap.size 5 1 (.slice A' n c') n (u8s l) ∧ Below wr.heap.size wr w' by
        have := HX.out.2.2.1.image
        rw [← HT.out] at this
        exact this)
      go_wp2_with fail
      refine HIm.out.mono ?_
      rintro e w9 ⟨Ai, ci, rfl, q1, q2, q3⟩
      have HB9 := Lib.hid (HX.out.2.1.trans (q3.mono HX.out.2.1.size))
      have HD9 := Lib.hid (HX.out.2.2.1.bel q3)
      have HO9 := Lib.hid q2
      obtain ⟨go, co, hv, hgo, hgl⟩ := q2.form (by omega)
      injection hv with e1 e2 e3
      subst e1
      subst e3
      have HGO := Lib.hid hgo
      have HGL := Lib.hid hgl
      have HSG9 := Lib.hid (show ¬ S go from fun hs => by have := HX.out.2.2.1.inn go hs; omega)
      have HSz9 := Lib.hid HX.out.2.1.size
      clear q1 q2 q3 hgo hgl hlt
      by_cases hx : 0 ≤ x ∧ x < (T : Int)
      · obtain ⟨y, rfl⟩ : ∃ y : Nat, x = (y : Int) := ⟨x.toNat, by omega⟩
        have hyT : y < T := by omega
        have HRd := Lib.hid (HD9.out.read_ok y hyT)
        clear hx
        go_wp2_with fail
        refine HRd.out.mono ?_
        rintro e w10 ⟨A10, c10, rfl, q1, q2, q3⟩
        have HS10 := Lib.hid (Seg.of_own q2)
        have HF10 := Lib.hid (show ∀ a, A10 = some a → go < a.block from fun a ha => Nat.lt_of_lt_of_le HGL.out (q2.lt a.block (by rw [ha]; rfl)).1)
        have HSc10 := Lib.hid (show Scrap w w10 go n ci S p T (DM.made l) from ⟨⟨_, (own_bel6 HO9.out q3).base_le HSz9.out⟩, HB9.out.trans (q3.mono HB9.out.size), HD9.out.bel q3, HSG9.out⟩)
        have HSame := Lib.hid (same_u8 (some ⟨go, 0, none⟩) (some ⟨b0, o0, none⟩) n n ci c l l HLL.out HLL.out w10 ((Seg.of_own HO9.out).bel q3) (HSS.out.bel HSc10.out.2.1) (by omega) (by omega))
        rw [show decide (l = l) = true by simp] at HSame
        clear q1 q2 q3
        go_wp2_with (go_at_call 18; refine HSame.out.mono ?_; rintro e w11 ⟨rfl, hb11⟩; have HSc11 := Lib.hid (show Scrap w w11 go n ci S p T (DM.made l) from ⟨⟨_, own_bel6 HSc10.out.1.choose_spec hb11⟩, HSc10.out.2.1.trans (hb11.mono HSc10.out.2.1.size), HSc10.out.2.2.1.bel hb11, HSc10.out.2.2.2⟩); have HS11 := Lib.hid (HS10.out.bel hb11); clear hb11)
        have HRl := Lib.hid (rd_length HD9.out.ok y hyT)
        obtain ⟨a, ha⟩ : ∃ a, a = y * 256 := ⟨_, rfl⟩
        have t1 : (256 : Int) * (y : Int) = (a : Int) := by omega
        have i3 : a + 256 ≤ c := by omega
        have i4 : a ≤ c := by omega
        have i5 : ¬ c = a := by omega
        have i6 : (y : Int) < (T : Int) := by omega
        have i7 : (a : Int) + 256 ≤ (c : Int) := by omega
        have HA := Lib.hid ha
        go_loopw [90] (fun i wr => ∃ k : Nat, k ≤ n ∧ i = .int .i64 k ∧ Hid (Scrap w wr go n ci S p T (DM.made l)) ∧ Hid (Seg wr A10 (u8s ((DM.made l).rd y)))) (fun i _ => n - (intOf i).toNat)
        case atStart => exact ⟨0, Nat.zero_le _, rfl, HSc11, HS11⟩
        case round =>
          obtain ⟨k2, hk2, rfl, HX2, HSr⟩ := hrel
          by_cases hlt2 : k2 < n
          · have i1 : (k2 : Int) < (n : Int) := by omega
            obtain ⟨⟨u, cu⟩, fu⟩ := HX2.out.at k2 hlt2
            clear ha
            go_wp2_with fail
            exact ⟨⟨k2 + 1, by omega, by go_num, Lib.hid (HX2.out.set k2 hlt2 8), Lib.hid (Seg.far HSr.out HF10.out k2 _)⟩, by simp [intOf]; omega⟩
          · have i1 : ¬ (k2 : Int) < (n : Int) := by omega
            have hsa := HSS.out.bel HX2.out.2.1
            have HSm := Lib.hid (same_u8 A10 (some ⟨b0, o0 + a, none⟩) 256 256 c10 (c - a) ((DM.made l).rd y) ((DM.made l).rd y) HRl.out.symm HRl.out.symm _ HSr.out (by rw [rd_made, ← ha]; exact seg_mid hsa a 256) (by omega) (by omega))
            rw [show decide ((DM.made l).rd y = (DM.made l).rd y) = true by simp] at HSm
            clear ha hlt2 hsa
            go_wp2_with fail
            refine HSm.out.mono ?_
            rintro e w12 ⟨rfl, hb12⟩
            have HB12 := Lib.hid (HX2.out.2.1.trans (hb12.mono HX2.out.2.1.size))
            have HD12 := Lib.hid (HX2.out.2.2.1.bel hb12)
            have HIm2 := Lib.hid (show Calls Try.prog 23 #[.pointer (some ⟨p, 0, none⟩)] w12 fun e w' => ∃ A' c', e = .returned (.slice A' n c') ∧ n ≤ c' ∧ w'.ownsRow w12.heap.size 5 1 (.slice A' n c') n (u8s l) ∧ Below w12.heap.size w12 w' by
              have := HD12.out.image
              rw [← HT.out] at this
              exact this)
            clear hb12
            go_wp2_with fail
            refine HIm2.out.mono ?_
            rintro e w13 ⟨A13, c13, rfl, q1, q2, q3⟩
            have HB13 := Lib.hid (HB12.out.trans (q3.mono HB12.out.size))
            have HSe := Lib.hid (same_u8 A13 (some ⟨b0, o0, none⟩) n n c13 c l l HLL.out HLL.out w13 (Seg.of_own q2) (HSS.out.bel HB13.out) (by omega) (by omega))
            rw [show decide (l = l) = true by simp] at HSe
            clear q1 q2 q3
            go_wp2_with (go_at_call 18; refine HSe.out.mono ?_; rintro e w14 ⟨rfl, hb14⟩; have HB14 := Lib.hid (HB13.out.trans (hb14.mono HB13.out.size)); clear hb14)
            go_ret
            exact ⟨rfl, HB14.out⟩
      · have HRd := Lib.hid (HD9.out.read_no x hx)
        have HSc10 := Lib.hid (show Scrap w w9 go n ci S p T (DM.made l) from ⟨⟨_, HO9.out.base_le HSz9.out⟩, HB9.out, HD9.out, HSG9.out⟩)
        have HSame := Lib.hid (same_u8 (some ⟨go, 0, none⟩) (some ⟨b0, o0, none⟩) n n ci c l l HLL.out HLL.out w9 (Seg.of_own HO9.out) (HSS.out.bel HSc10.out.2.1) (by omega) (by omega))
        rw [show decide (l = l) = true by simp] at HSame
        have hxx : x < 0 ∨ (0 ≤ x ∧ (T : Int) ≤ x) := by omega
        clear hx
        go_wp2_with fail
        refine HRd.out.mono ?_
        rintro e w10 ⟨rfl, rfl⟩
        go_wp2_with (go_at_call 18; refine HSame.out.mono ?_; rintro e w11 ⟨rfl, hb11⟩; have HSc11 := Lib.hid (show Scrap w w11 go n ci S p T (DM.made l) from ⟨⟨_, own_bel6 HSc10.out.1.choose_spec hb11⟩, HSc10.out.2.1.trans (hb11.mono HSc10.out.2.1.size), HSc10.out.2.2.1.bel hb11, HSc10.out.2.2.2⟩); clear hb11)
        go_loopw [90] (fun i wr => ∃ k : Nat, k ≤ n ∧ i = .int .i64 k ∧ Hid (Scrap w wr go n ci S p T (DM.made l))) (fun i _ => n - (intOf i).toNat)
        case atStart => exact ⟨0, Nat.zero_le _, rfl, HSc11⟩
        case round =>
          obtain ⟨k2, hk2, rfl, HX2⟩ := hrel
          by_cases hlt2 : k2 < n
          · have i1 : (k2 : Int) < (n : Int) := by omega
            obtain ⟨⟨u, cu⟩, fu⟩ := HX2.out.at k2 hlt2
            clear hxx
            go_wp2_with fail
            exact ⟨⟨k2 + 1, by omega, by go_num, Lib.hid (HX2.out.set k2 hlt2 8)⟩, by simp [intOf]; omega⟩
          · have i1 : ¬ (k2 : Int) < (n : Int) := by omega
            rcases hxx with hx1 | ⟨hx1, hx2⟩
            · go_wp2_with fail
              go_ret
              exact ⟨rfl, HX2.out.2.1⟩
            · go_wp2_with fail
              go_ret
              exact ⟨rfl, HX2.out.2.1⟩
theorem loads_any (A : Option Addr) (n c : Nat) (l : List Nat) (x : Int) (hl : n = l.length) (hn : n ≤ 140737488355328) (hnc : n ≤ c) (hS : Seg w A (u8s l)) :
    Calls Try.prog 4 #[.slice A n c, .int .i64 x] w fun e w' => e = .returned (.bool true) ∧ Below w.heap.size w w' := by
  by_cases h : n % 256 = 0 ∧ 1 ≤ n / 256 ∧ n / 256 ≤ 2048
  · exact loads_ok A n c (n / 256) l x hl (by omega) h.2.1 h.2.2 hnc hS
  · exact loads_bad A n c l x hl hn hS h
end
end Go.Proofs.Ytbepdmohaedjkaa
