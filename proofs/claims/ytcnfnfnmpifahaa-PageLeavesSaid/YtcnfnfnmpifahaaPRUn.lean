/- The reference's Unset of a leaf. Condition: the leaf is in form and its rows lie in memory. -/
import Derived.Test.YtcnfnfnmpifahaaPGr
import Derived.Test.YtcnfnfnmpifahaaPLM
import Derived.Test.YtcnfnfnmpifahaaPFind
import Derived.Test.YtcnfnfnmpifahaaSizeM
import Derived.LoopTactic
import Derived.Deep.LoopGhost
import Derived.WalkLawsBesides
import Derived.BigQuiet
import Derived.Deep.QuietTactic
import Derived.Deep.CutBlock
import Derived.Deep.DeepCutAuto
namespace Go.Proofs.Ytcnfnfnmpifahaa
open Go.RowKit

set_option maxRecDepth 100000 in
set_option maxHeartbeats 4000000 in
/-- The reference's Unset. -/
theorem runset_any (ks vs : List ByteArray) (cs : List Int) (A B C : Option Addr) (nk ca cb nc cc : Nat) (x : ByteArray) (w : World) (h : Nd w ⟨true, ks, vs, cs⟩ A B C nk ca nk cb nc cc) (hk : keysOk ks = true) :
    Calls Try.prog 24 #[.agg #[.bool true, .slice A nk ca, .slice B nk cb, .slice C nc cc], .string x] w fun e w' => (∃ K V m, e = .returned (.agg #[.bool true, K, V, .slice none 0 0]) ∧ w'.ownsRow w.heap.size 9 1 K m (strV (unL ks (atN ks x) (hitB ks x))) ∧ w'.ownsRow w.heap.size 9 1 V m (strV (unL vs (atN ks x) (hitB ks x)))) ∧ Below w.heap.size w w' := by
  obtain ⟨i0, hi0, hz0, hz1, hz2⟩ := info_parts info_str
  have H := Lib.hid h
  have bk : nk ≤ 8796093022208 := h.bk
  have HK := Lib.hid hk
  have hlk := Lib.hid (show nk = ks.length from h.ek)
  have hlv := Lib.hid (show nk = vs.length from h.ev)
  obtain ⟨wc, hwc⟩ : ∃ wc, wc = ((w.alloc (.cells #[.bool true, .slice A nk ca, .slice B nk cb, .slice C nc cc] 25)).alloc (.cells #[.bool false, .slice none 0 0, .slice none 0 0, .slice none 0 0] 25)).alloc (.cells #[.bool true, .slice none 0 0, .slice none 0 0, .slice none 0 0] 25) := ⟨_, rfl⟩
  have HS0 := Lib.hid (show SuS w #[.bool true, .slice A nk ca, .slice B nk cb, .slice C nc cc] 0 0 [] [] (.slice none 0 0) (.slice none 0 0) wc by
    rw [hwc]
    have k1 := Bk.new (w.alloc (.cells #[.bool true, .slice A nk ca, .slice B nk cb, .slice C nc cc] 25)) 25 #[.bool false, .slice none 0 0, .slice none 0 0, .slice none 0 0]
    have k2 := Bk.new ((w.alloc (.cells #[.bool true, .slice A nk ca, .slice B nk cb, .slice C nc cc] 25)).alloc (.cells #[.bool false, .slice none 0 0, .slice none 0 0, .slice none 0 0] 25)) 25 #[.bool true, .slice none 0 0, .slice none 0 0, .slice none 0 0]
    rw [World.size_alloc] at k1
    rw [World.size_alloc, World.size_alloc] at k2
    exact ⟨(((Below.refl _ _).alloc (Nat.le_refl _) _).alloc (by simp) _).alloc (by simp; omega) _, ((Bk.new w _ _).alloc _).alloc _, k1.alloc _, k2, World.ownsRow_nil _ _ _ _, World.ownsRow_nil _ _ _ _, apart_nil0 _⟩)
  have HWC := Lib.hid hwc
  have y1 := HS0.out.nb.cell 1
  clear h hk hwc
  go_enter Try.func24, Try.ntmps24
  go_upto_region 3 with fail
  rw [← HWC.out]
  go_wp2_with fail
  go_loopw [11] (fun s wr => ∃ (i m : Nat) (K V : Value), i ≤ nk ∧ m ≤ i ∧ s = .int .i64 i ∧ Hid (SuS w #[.bool true, .slice A nk ca, .slice B nk cb, .slice C nc cc] m m (unT ks (atN ks x) (hitB ks x) i) (unT vs (atN ks x) (hitB ks x) i) K V wr)) (fun s _ => nk - (intOf s).toNat)
  case atStart => exact ⟨0, 0, _, _, by omega, by omega, rfl, by rw [unT_zero, unT_zero]; exact HS0⟩
  case round =>
    clear y1 HS0 HWC
    obtain ⟨i, m, K, V, hin, hmi, rfl, hS⟩ := hrel
    obtain ⟨Ak, ck, rfl, hck, _⟩ := own_shape hS.out.ok
    obtain ⟨Av, cv, rfl, hcv, _⟩ := own_shape hS.out.ov
    by_cases hlt : i < nk
    · have hks : i < ks.length := by have := hlk.out; omega
      have hvs : i < vs.length := by have := hlv.out; omega
      obtain ⟨b, off, rfl, hbs, hc⟩ := (H.out.sk).str hks
      obtain ⟨b1, off1, rfl, hbs1, hc1⟩ := (H.out.sv).str hvs
      obtain ⟨xk, hxk⟩ : ∃ y, y = ks[i] := ⟨_, rfl⟩
      obtain ⟨xv, hxv⟩ : ∃ y, y = vs[i] := ⟨_, rfl⟩
      rw [← hxk] at hc
      rw [← hxv] at hc1
      have HCk := Lib.hid (show ∀ w1, Below w.heap.size w w1 → w1.cell? ⟨b, off + i, none⟩ = some (.string xk) from fun w1 hb => (World.cell?_of_block (w := w) (a := ⟨b, off + i, none⟩) (hb.block b hbs)).trans hc)
      have HCv := Lib.hid (show ∀ w1, Below w.heap.size w w1 → w1.cell? ⟨b1, off1 + i, none⟩ = some (.string xv) from fun w1 hb => (World.cell?_of_block (w := w) (a := ⟨b1, off1 + i, none⟩) (hb.block b1 hbs1)).trans hc1)
      have E1 := Lib.hid (show ((i : Int) + 1) = ((i + 1 : Nat) : Int) by omega)
      have M : ∀ kk : Nat, kk = i + 1 → (nk - (intOf (.int .i64 (kk : Int))).toNat < nk - (intOf (.int .i64 (i : Int))).toNat) := fun kk hk2 => by subst hk2; simp only [intOf]; omega
      have EQ := Lib.hid (eq_iff (x := x) HK.out hks)
      have UK := Lib.hid (fun (h : ¬ (hitB ks x = true ∧ i = atN ks x)) => unT_keep (l := ks) hks h)
      have UV := Lib.hid (fun (h : ¬ (hitB ks x = true ∧ i = atN ks x)) => unT_keep (l := vs) hvs h)
      have US := Lib.hid (fun (h : hitB ks x = true ∧ i = atN ks x) => show unT ks (atN ks x) (hitB ks x) (i + 1) = unT ks (atN ks x) (hitB ks x) i ∧ unT vs (atN ks x) (hitB ks x) (i + 1) = unT vs (atN ks x) (hitB ks x) i by
        obtain ⟨h1, h2⟩ := h
        rw [h1]
        rw [← h2]
        exact ⟨unT_skip hks, unT_skip hvs⟩)
      rw [← hxk] at EQ UK
      rw [← hxv] at UV
      have z1 := HCk.out wr hS.out.bel
      have y1 := hS.out.nb.cell 1
      clear hc hc1 hbs hbs1 hks hvs hxk hxv
      by_cases hq : xk = x
      · have HU := Lib.hid (US.out (by have := EQ.out; rw [decide_eq_true hq] at this; simpa using this.symm))
        have q1 : (xk.toList == x.toList) = true := by rw [beq_toList]; simp [hq]
        clear hq
        go_wp2_with fail
        rw [E1.out]
        refine ⟨⟨i + 1, m, .slice Ak m ck, .slice Av m cv, by omega, by omega, rfl, ?_⟩, M _ rfl⟩
        rw [HU.out.1, HU.out.2]
        exact hS
      · have HN := Lib.hid (show ¬ (hitB ks x = true ∧ i = atN ks x) by have := EQ.out; rw [decide_eq_false hq] at this; intro hc; rw [hc.1, ← hc.2] at this; simp at this)
        have q1 : (xk.toList == x.toList) = false := by rw [beq_toList]; simp [hq]
        have HKe := Lib.hid (UK.out HN.out)
        have HVe := Lib.hid (UV.out HN.out)
        clear hq UK UV US HN EQ
        obtain ⟨ks', hks'⟩ : ∃ l, l = unT ks (atN ks x) (hitB ks x) i := ⟨_, rfl⟩
        obtain ⟨vs', hvs'⟩ : ∃ l, l = unT vs (atN ks x) (hitB ks x) i := ⟨_, rfl⟩
        rw [← hks', ← hvs'] at hS
        rw [← hks'] at HKe
        rw [← hvs'] at HVe
        clear hks' hvs'
        have hS := hS.out
        have HS := Lib.hid hS
        have HAP := Lib.hid hS.ap
        clear hS
        have G0 := Lib.hid (show GrG w w.heap.size w.heap.size (w.heap.size + 1) (w.heap.size + 2) 25 #[.bool true, .slice (some ⟨b, off, none⟩) nk ca, .slice (some ⟨b1, off1, none⟩) nk cb, .slice C nc cc] #[.bool false, .slice none 0 0, .slice none 0 0, .slice none 0 0] 9 (.slice Av m cv) m (strV vs') (Value.ownBlock (.slice Ak m ck)) wr.drew from
          ⟨HS.out.bel.drew, HS.out.ob.lt, HS.out.nb, HS.out.res, own_belS HS.out.ov (Below.refl _ _).drew, fun b e => own_ge HS.out.ok e, by omega, by omega, by omega, HS.out.bel.size⟩)
        have H0 := Lib.hid (show ∀ m', m' < 11 → grH w.heap.size (w.heap.size + 2) 25 9 (fun v => #[.bool true, v, (.slice Av m cv), .slice none 0 0]) (.slice Ak m ck) m (strV ks') m' wr.drew from fun m' _ => by
          unfold grH
          split
          · exact own_belS HS.out.ok (Below.refl _ _).drew
          · exact HS.out.ob
          · trivial)
        go_wp2_with fail
        refine wp_region_late [some 21, some 22, some 23, some 24, some 25, some 26, some 27, some 28, some 29, some 30, none] (fun _ => 0) (grF w.heap.size w.heap.size (w.heap.size + 2) 1 1 25 9 (fun v => #[.bool true, v, (.slice Av m cv), .slice none 0 0]) (.slice Ak m ck) (.slice (some ⟨b, off, none⟩) nk ca) (.int .i64 (i : Int)) (.pointer (some ⟨b, off + i, none⟩)) (.string xk) (.slice Av m cv) m (strV ks')) (GrG w w.heap.size w.heap.size (w.heap.size + 1) (w.heap.size + 2) 25 #[.bool true, .slice (some ⟨b, off, none⟩) nk ca, .slice (some ⟨b1, off1, none⟩) nk cb, .slice C nc cc] #[.bool false, .slice none 0 0, .slice none 0 0, .slice none 0 0] 9 (.slice Av m cv) m (strV vs') (Value.ownBlock (.slice Ak m ck))) (grH w.heap.size (w.heap.size + 2) 25 9 (fun v => #[.bool true, v, (.slice Av m cv), .slice none 0 0]) (.slice Ak m ck) m (strV ks')) (by kernel_rfl) G0.out H0.out rfl (by kernel_rfl) (by kernel_rfl) (by kernel_rfl) (by kernel_rfl) (fun T hT => ?_)
        simp only [List.filterMap_cons, List.filterMap_nil, id, putsS, Act.put, List.setIfInBounds_toArray, List.set_cons_zero, List.set_cons_succ] at hT
        subst hT
        refine ⟨⟨?_, ?_, ?_, ?_, ?_, ?_, ?_, ?_, ?_, ?_, ?_, trivial⟩, ?_⟩
        · -- 0: Op.fieldAddr 25 t5 1
          intro f w1 hG hO hL hF K hK
          clear hF hO hL
          dsimp only at hK ⊢
          go_simp
          exact hK.out _ _ hG rfl (fun _ _ _ h => h) (fun _ _ h => h)
        · -- 1: Op.load 22 t21
          intro f w1 hG hO hL hF K hK
          have l10 : (grH w.heap.size (w.heap.size + 2) 25 9 (fun v => #[.bool true, v, (.slice Av m cv), .slice none 0 0]) (.slice Ak m ck) m (strV ks')) 10 w1 := hL 10 (Nat.le_of_ble_eq_true (by kernel_rfl)) (by kernel_rfl)
          have d0 : (grF w.heap.size w.heap.size (w.heap.size + 2) 1 1 25 9 (fun v => #[.bool true, v, (.slice Av m cv), .slice none 0 0]) (.slice Ak m ck) (.slice (some ⟨b, off, none⟩) nk ca) (.int .i64 (i : Int)) (.pointer (some ⟨b, off + i, none⟩)) (.string xk) (.slice Av m cv) m (strV ks')) 0 (f 21) (f 0) w1 := hF 0 (by kernel_rfl)
          clear hF hO hL
          dsimp only at hK ⊢
          generalize hf21 : f 21 = v21 at *
          subst d0
          have y : w1.cell? ⟨(w.heap.size + 2), 1, none⟩ = some (.slice Ak m ck) := Bk.cell l10 1
          go_simp
          exact hK.out _ _ hG rfl (fun _ _ _ h => h) (fun _ _ h => h)
        · -- 2: Op.fieldAddr 25 t2 1
          intro f w1 hG hO hL hF K hK
          clear hF hO hL
          dsimp only at hK ⊢
          go_simp
          exact hK.out _ _ hG rfl (fun _ _ _ h => h) (fun _ _ h => h)
        · -- 3: Op.load 22 t23
          intro f w1 hG hO hL hF K hK
          have d2 : (grF w.heap.size w.heap.size (w.heap.size + 2) 1 1 25 9 (fun v => #[.bool true, v, (.slice Av m cv), .slice none 0 0]) (.slice Ak m ck) (.slice (some ⟨b, off, none⟩) nk ca) (.int .i64 (i : Int)) (.pointer (some ⟨b, off + i, none⟩)) (.string xk) (.slice Av m cv) m (strV ks')) 2 (f 23) (f 0) w1 := hF 2 (by kernel_rfl)
          clear hF hO hL
          dsimp only at hK ⊢
          generalize hf23 : f 23 = v23 at *
          subst d2
          have y := Bk.cell hG.nb 1
          go_simp
          exact hK.out _ _ hG rfl (fun _ _ _ h => h) (fun _ _ h => h)
        · -- 4: Op.move t6
          intro f w1 hG hO hL hF K hK
          clear hF hO hL
          dsimp only at hK ⊢
          go_simp
          exact hK.out _ _ hG rfl (fun _ _ _ h => h) (fun _ _ h => h)
        · -- 5: Op.indexAddr 22 t24 t25
          intro f w1 hG hO hL hF K hK
          have d3 : (grF w.heap.size w.heap.size (w.heap.size + 2) 1 1 25 9 (fun v => #[.bool true, v, (.slice Av m cv), .slice none 0 0]) (.slice Ak m ck) (.slice (some ⟨b, off, none⟩) nk ca) (.int .i64 (i : Int)) (.pointer (some ⟨b, off + i, none⟩)) (.string xk) (.slice Av m cv) m (strV ks')) 3 (f 24) (f 0) w1 := hF 3 (by kernel_rfl)
          have d4 : (grF w.heap.size w.heap.size (w.heap.size + 2) 1 1 25 9 (fun v => #[.bool true, v, (.slice Av m cv), .slice none 0 0]) (.slice Ak m ck) (.slice (some ⟨b, off, none⟩) nk ca) (.int .i64 (i : Int)) (.pointer (some ⟨b, off + i, none⟩)) (.string xk) (.slice Av m cv) m (strV ks')) 4 (f 25) (f 0) w1 := hF 4 (by kernel_rfl)
          clear hF hO hL
          dsimp only at hK ⊢
          generalize hf24 : f 24 = v24 at *
          generalize hf25 : f 25 = v25 at *
          subst d3
          subst d4
          go_simp
          exact hK.out _ _ hG rfl (fun _ _ _ h => h) (fun _ _ h => h)
        · -- 6: Op.load 9 t26
          intro f w1 hG hO hL hF K hK
          have d5 : (grF w.heap.size w.heap.size (w.heap.size + 2) 1 1 25 9 (fun v => #[.bool true, v, (.slice Av m cv), .slice none 0 0]) (.slice Ak m ck) (.slice (some ⟨b, off, none⟩) nk ca) (.int .i64 (i : Int)) (.pointer (some ⟨b, off + i, none⟩)) (.string xk) (.slice Av m cv) m (strV ks')) 5 (f 26) (f 0) w1 := hF 5 (by kernel_rfl)
          clear hF hO hL
          dsimp only at hK ⊢
          generalize hf26 : f 26 = v26 at *
          subst d5
          have y := HCk.out w1 hG.bel
          go_simp
          exact hK.out _ _ hG rfl (fun _ _ _ h => h) (fun _ _ h => h)
        · -- 7: Op.buildSlice 22 1 #[(0, t27)]
          intro f w1 hG hO hL hF K hK
          have d6 : (grF w.heap.size w.heap.size (w.heap.size + 2) 1 1 25 9 (fun v => #[.bool true, v, (.slice Av m cv), .slice none 0 0]) (.slice Ak m ck) (.slice (some ⟨b, off, none⟩) nk ca) (.int .i64 (i : Int)) (.pointer (some ⟨b, off + i, none⟩)) (.string xk) (.slice Av m cv) m (strV ks')) 6 (f 27) (f 0) w1 := hF 6 (by kernel_rfl)
          clear hF hO hL
          dsimp only at hK ⊢
          generalize hf27 : f 27 = v27 at *
          subst d6
          go_simp
          exact hK.out _ _ (hG.next ((Below.refl _ _).alloc (Nat.le_refl _) _)) ⟨w1.heap.size, rfl, hG.s4, (by have := hG.lt; omega), (fun e => absurd (hG.kl _ e).2 (Nat.lt_irrefl _)), Bk.new w1 _ _⟩ (fun j _ _ h => grF_bel ((Below.refl _ _).alloc (Nat.le_refl _) _) j _ _ h) (fun m _ h => grH_bel ((Below.refl _ _).alloc (Nat.le_refl _) _) m h)
        · -- 8: Op.call ( builtin append, args := #[t22, t28], argTypes := #[22, 22] )
          intro f w1 hG hO hL hF K hK
          have l8 : (grH w.heap.size (w.heap.size + 2) 25 9 (fun v => #[.bool true, v, (.slice Av m cv), .slice none 0 0]) (.slice Ak m ck) m (strV ks')) 8 w1 := hL 8 (Nat.le_of_ble_eq_true (by kernel_rfl)) (by kernel_rfl)
          have l10 : (grH w.heap.size (w.heap.size + 2) 25 9 (fun v => #[.bool true, v, (.slice Av m cv), .slice none 0 0]) (.slice Ak m ck) m (strV ks')) 10 w1 := hL 10 (Nat.le_of_ble_eq_true (by kernel_rfl)) (by kernel_rfl)
          have d1 : (grF w.heap.size w.heap.size (w.heap.size + 2) 1 1 25 9 (fun v => #[.bool true, v, (.slice Av m cv), .slice none 0 0]) (.slice Ak m ck) (.slice (some ⟨b, off, none⟩) nk ca) (.int .i64 (i : Int)) (.pointer (some ⟨b, off + i, none⟩)) (.string xk) (.slice Av m cv) m (strV ks')) 1 (f 22) (f 0) w1 := hF 1 (by kernel_rfl)
          have d7 : (grF w.heap.size w.heap.size (w.heap.size + 2) 1 1 25 9 (fun v => #[.bool true, v, (.slice Av m cv), .slice none 0 0]) (.slice Ak m ck) (.slice (some ⟨b, off, none⟩) nk ca) (.int .i64 (i : Int)) (.pointer (some ⟨b, off + i, none⟩)) (.string xk) (.slice Av m cv) m (strV ks')) 7 (f 28) (f 0) w1 := hF 7 (by kernel_rfl)
          clear hF hO hL
          dsimp only at hK ⊢
          generalize hf22 : f 22 = v22 at *
          generalize hf28 : f 28 = v28 at *
          have d1 : v22 = (.slice Ak m ck) := d1
          subst d1
          obtain ⟨g, rfl, h0, h1, h2, h3⟩ := d7
          have hcb : ∀ j u, [(.string xk)][j]? = some u → w1.cell? ((⟨g, 0, none⟩ : Addr).add j) = some u := fun j u hu => by
            rw [show ((⟨g, 0, none⟩ : Addr).add j) = ⟨g, j, none⟩ by unfold Addr.add; split <;> simp_all, h3.cell j]; simpa using hu
          obtain ⟨v', w2', hrun, hown, hgr, _, hat⟩ := run_append_own_at (P := Try.prog) (w := w1) w.heap.size 22 22 9 i0 _ 1 16 Try.underlying22 hi0 hz0 hz1 hz2 rfl (by decide) (.slice Ak m ck) m (strV ks') l8 ⟨g, 0, none⟩ 1 1 [(.string xk)] rfl hcb (by intro u hu; simp only [List.mem_singleton] at hu; subst hu; rfl) (by simp only [maxLen]; omega) (by omega) hG.s4
          have ap1 : Apart v' (.slice Av m cv) := fun b hb hb2 => by
            rcases hat with h | h
            · exact HAP.out b (h ▸ hb) hb2
            · rw [h] at hb
              injection hb with hb
              subst hb
              exact absurd (own_ge hG.o hb2).2 (Nat.lt_irrefl _)
          have kn : (Value.ownBlock (.slice Ak m ck) = none ∨ (Value.ownBlock (.slice Av m cv)) ≠ Value.ownBlock (.slice Ak m ck)) := by
            cases hK : Value.ownBlock (.slice Ak m ck) with
            | none => exact Or.inl rfl
            | some b => exact Or.inr (HAP.out b hK)
          have nkO : Value.ownBlock (.slice Ak m ck) ≠ some (w.heap.size + 2) := own_tyne l8 l10 (by decide)
          have nkN : Value.ownBlock (.slice Ak m ck) ≠ some w.heap.size := own_tyne l8 hG.nb (by decide)
          have nkR : Value.ownBlock (.slice Ak m ck) ≠ some (w.heap.size + 1) := own_tyne l8 hG.res (by decide)
          refine Lib.wp_append_run w1 _ _ _ _ rfl _ _ rfl rfl _ w2' hrun (hK.out v' w2' (hG.app hgr nkN nkR kn) ⟨hown, ap1⟩ ?_ (fun m hm h => grH_app hgr nkO m hm h))
          intro j hj hdep h
          by_cases h10 : j = 10
          · subst h10
            exact absurd hdep (by rw [show depS _ 10 8 = true by kernel_rfl]; decide)
          · exact grF_app rfl hgr j hj h10 _ _ h
        · -- 9: Op.fieldAddr 25 t5 1
          intro f w1 hG hO hL hF K hK
          clear hF hO hL
          dsimp only at hK ⊢
          go_simp
          exact hK.out _ _ hG rfl (fun _ _ _ h => h) (fun _ _ h => h)
        · -- 10: Op.store 22 t30 t29
          intro f w1 hG hO hL hF K hK
          have l10 : (grH w.heap.size (w.heap.size + 2) 25 9 (fun v => #[.bool true, v, (.slice Av m cv), .slice none 0 0]) (.slice Ak m ck) m (strV ks')) 10 w1 := hL 10 (Nat.le_of_ble_eq_true (by kernel_rfl)) (by kernel_rfl)
          have d9 : (grF w.heap.size w.heap.size (w.heap.size + 2) 1 1 25 9 (fun v => #[.bool true, v, (.slice Av m cv), .slice none 0 0]) (.slice Ak m ck) (.slice (some ⟨b, off, none⟩) nk ca) (.int .i64 (i : Int)) (.pointer (some ⟨b, off + i, none⟩)) (.string xk) (.slice Av m cv) m (strV ks')) 9 (f 30) (f 0) w1 := hF 9 (by kernel_rfl)
          have d8 : (grF w.heap.size w.heap.size (w.heap.size + 2) 1 1 25 9 (fun v => #[.bool true, v, (.slice Av m cv), .slice none 0 0]) (.slice Ak m ck) (.slice (some ⟨b, off, none⟩) nk ca) (.int .i64 (i : Int)) (.pointer (some ⟨b, off + i, none⟩)) (.string xk) (.slice Av m cv) m (strV ks')) 8 (f 29) (f 0) w1 := hF 8 (by kernel_rfl)
          clear hF hO hL
          dsimp only at hK ⊢
          generalize hf30 : f 30 = v30 at *
          generalize hf29 : f 29 = v29 at *
          subst d9
          have hd8 : w1.ownsRow w.heap.size 9 1 v29 (m + 1) ((strV ks') ++ [(.string xk)]) ∧ Apart v29 (.slice Av m cv) := d8
          clear d8
          obtain ⟨A5, c5, rfl, _, _⟩ := own_shape hd8.1
          have hl10 : Bk w1 (w.heap.size + 2) 25 #[.bool true, (.slice Ak m ck), (.slice Av m cv), .slice none 0 0] := l10
          have y0 : w1.cell? ⟨(w.heap.size + 2), 1, none⟩ = some (.slice Ak m ck) := Bk.cell hl10 1
          have f0 := Bk.frozen hl10 1
          have HD8 := Lib.hid hd8
          have HL10 := Lib.hid hl10
          have HG := Lib.hid hG
          clear hd8 hl10 l10 hG
          go_simp
          refine hK.out undef _ (HG.out.set HL10.out (by decide) 1 (.slice A5 (m + 1) c5)) ⟨_, HL10.out.put 1 (.slice A5 (m + 1) c5), own_st HD8.out.1 (Kept1.set w1 (w.heap.size + 2) 1 _) (own_tyne HD8.out.1 HL10.out (by decide)), HD8.out.2⟩ (fun j hj _ h => grF_set HL10.out (by decide) 1 _ j hj _ _ h) (fun m hm h => grH_set HL10.out (by decide) 1 _ m hm h)
        · intro f w6 hG hF
          obtain ⟨V', g1, g2', g3'⟩ : (grF w.heap.size w.heap.size (w.heap.size + 2) 1 1 25 9 (fun v => #[.bool true, v, (.slice Av m cv), .slice none 0 0]) (.slice Ak m ck) (.slice (some ⟨b, off, none⟩) nk ca) (.int .i64 (i : Int)) (.pointer (some ⟨b, off + i, none⟩)) (.string xk) (.slice Av m cv) m (strV ks')) 10 undef undef w6 := hF 10 (by decide)
          have HG1 := Lib.hid hG
          clear hF hG
          dsimp only
          generalize f 21 = v21
          generalize f 22 = v22
          generalize f 23 = v23
          generalize f 24 = v24
          generalize f 25 = v25
          generalize f 26 = v26
          generalize f 27 = v27
          generalize f 28 = v28
          generalize f 29 = v29
          generalize f 30 = v30
          have HG2 := Lib.hid g2'
          obtain ⟨A6, c6, rfl, hc6, hs6⟩ := own_shape g2'
          have HG3 := Lib.hid g3'
          have HG1' := Lib.hid g1
          clear g1 g2' g3' hs6 G0 H0
          have G0 := Lib.hid (show GrG w w.heap.size w.heap.size (w.heap.size + 1) (w.heap.size + 2) 25 #[.bool true, .slice (some ⟨b, off, none⟩) nk ca, .slice (some ⟨b1, off1, none⟩) nk cb, .slice C nc cc] #[.bool false, .slice none 0 0, .slice none 0 0, .slice none 0 0] 9 (.slice A6 (m + 1) c6) (m + 1) (strV ks' ++ [.string xk]) (Value.ownBlock (.slice Av m cv)) w6.drew from
            ⟨HG1.out.bel.drew, HG1.out.lt, HG1.out.nb, HG1.out.res, own_belS HG2.out (Below.refl _ _).drew, fun b e => own_ge HG1.out.o e, by omega, by omega, by omega, HG1.out.s4⟩)
          have H0 := Lib.hid (show ∀ m', m' < 11 → grH w.heap.size (w.heap.size + 2) 25 9 (fun v => #[.bool true, (.slice A6 (m + 1) c6), v, .slice none 0 0]) (.slice Av m cv) m (strV vs') m' w6.drew from fun m' _ => by
            unfold grH
            split
            · exact own_belS HG1.out.o (Below.refl _ _).drew
            · exact HG1'.out
            · trivial)
          have HAP2 := Lib.hid (show Apart (.slice Av m cv) (.slice A6 (m + 1) c6) from HG3.out.sym)
          go_wp2_with fail
          refine wp_region_late [some 31, some 32, some 33, some 34, some 35, some 36, some 37, some 38, some 39, some 40, none] (fun _ => 0) (grF w.heap.size w.heap.size (w.heap.size + 2) 2 2 25 9 (fun v => #[.bool true, (.slice A6 (m + 1) c6), v, .slice none 0 0]) (.slice Av m cv) (.slice (some ⟨b1, off1, none⟩) nk cb) (.int .i64 (i : Int)) (.pointer (some ⟨b1, off1 + i, none⟩)) (.string xv) (.slice A6 (m + 1) c6) m (strV vs')) (GrG w w.heap.size w.heap.size (w.heap.size + 1) (w.heap.size + 2) 25 #[.bool true, .slice (some ⟨b, off, none⟩) nk ca, .slice (some ⟨b1, off1, none⟩) nk cb, .slice C nc cc] #[.bool false, .slice none 0 0, .slice none 0 0, .slice none 0 0] 9 (.slice A6 (m + 1) c6) (m + 1) (strV ks' ++ [.string xk]) (Value.ownBlock (.slice Av m cv))) (grH w.heap.size (w.heap.size + 2) 25 9 (fun v => #[.bool true, (.slice A6 (m + 1) c6), v, .slice none 0 0]) (.slice Av m cv) m (strV vs')) (by kernel_rfl) G0.out H0.out rfl (by kernel_rfl) (by kernel_rfl) (by kernel_rfl) (by kernel_rfl) (fun T hT => ?_)
          simp only [List.filterMap_cons, List.filterMap_nil, id, putsS, Act.put, List.setIfInBounds_toArray, List.set_cons_zero, List.set_cons_succ] at hT
          subst hT
          refine ⟨⟨?_, ?_, ?_, ?_, ?_, ?_, ?_, ?_, ?_, ?_, ?_, trivial⟩, ?_⟩
          · -- 0: Op.fieldAddr 25 t5 2
            intro f w1 hG hO hL hF K hK
            clear hF hO hL
            dsimp only at hK ⊢
            go_simp
            exact hK.out _ _ hG rfl (fun _ _ _ h => h) (fun _ _ h => h)
          · -- 1: Op.load 22 t31
            intro f w1 hG hO hL hF K hK
            have l10 : (grH w.heap.size (w.heap.size + 2) 25 9 (fun v => #[.bool true, (.slice A6 (m + 1) c6), v, .slice none 0 0]) (.slice Av m cv) m (strV vs')) 10 w1 := hL 10 (Nat.le_of_ble_eq_true (by kernel_rfl)) (by kernel_rfl)
            have d0 : (grF w.heap.size w.heap.size (w.heap.size + 2) 2 2 25 9 (fun v => #[.bool true, (.slice A6 (m + 1) c6), v, .slice none 0 0]) (.slice Av m cv) (.slice (some ⟨b1, off1, none⟩) nk cb) (.int .i64 (i : Int)) (.pointer (some ⟨b1, off1 + i, none⟩)) (.string xv) (.slice A6 (m + 1) c6) m (strV vs')) 0 (f 31) (f 0) w1 := hF 0 (by kernel_rfl)
            clear hF hO hL
            dsimp only at hK ⊢
            generalize hf31 : f 31 = v31 at *
            subst d0
            have y : w1.cell? ⟨(w.heap.size + 2), 2, none⟩ = some (.slice Av m cv) := Bk.cell l10 2
            go_simp
            exact hK.out _ _ hG rfl (fun _ _ _ h => h) (fun _ _ h => h)
          · -- 2: Op.fieldAddr 25 t2 2
            intro f w1 hG hO hL hF K hK
            clear hF hO hL
            dsimp only at hK ⊢
            go_simp
            exact hK.out _ _ hG rfl (fun _ _ _ h => h) (fun _ _ h => h)
          · -- 3: Op.load 22 t33
            intro f w1 hG hO hL hF K hK
            have d2 : (grF w.heap.size w.heap.size (w.heap.size + 2) 2 2 25 9 (fun v => #[.bool true, (.slice A6 (m + 1) c6), v, .slice none 0 0]) (.slice Av m cv) (.slice (some ⟨b1, off1, none⟩) nk cb) (.int .i64 (i : Int)) (.pointer (some ⟨b1, off1 + i, none⟩)) (.string xv) (.slice A6 (m + 1) c6) m (strV vs')) 2 (f 33) (f 0) w1 := hF 2 (by kernel_rfl)
            clear hF hO hL
            dsimp only at hK ⊢
            generalize hf33 : f 33 = v33 at *
            subst d2
            have y := Bk.cell hG.nb 2
            go_simp
            exact hK.out _ _ hG rfl (fun _ _ _ h => h) (fun _ _ h => h)
          · -- 4: Op.move t6
            intro f w1 hG hO hL hF K hK
            clear hF hO hL
            dsimp only at hK ⊢
            go_simp
            exact hK.out _ _ hG rfl (fun _ _ _ h => h) (fun _ _ h => h)
          · -- 5: Op.indexAddr 22 t34 t35
            intro f w1 hG hO hL hF K hK
            have d3 : (grF w.heap.size w.heap.size (w.heap.size + 2) 2 2 25 9 (fun v => #[.bool true, (.slice A6 (m + 1) c6), v, .slice none 0 0]) (.slice Av m cv) (.slice (some ⟨b1, off1, none⟩) nk cb) (.int .i64 (i : Int)) (.pointer (some ⟨b1, off1 + i, none⟩)) (.string xv) (.slice A6 (m + 1) c6) m (strV vs')) 3 (f 34) (f 0) w1 := hF 3 (by kernel_rfl)
            have d4 : (grF w.heap.size w.heap.size (w.heap.size + 2) 2 2 25 9 (fun v => #[.bool true, (.slice A6 (m + 1) c6), v, .slice none 0 0]) (.slice Av m cv) (.slice (some ⟨b1, off1, none⟩) nk cb) (.int .i64 (i : Int)) (.pointer (some ⟨b1, off1 + i, none⟩)) (.string xv) (.slice A6 (m + 1) c6) m (strV vs')) 4 (f 35) (f 0) w1 := hF 4 (by kernel_rfl)
            clear hF hO hL
            dsimp only at hK ⊢
            generalize hf34 : f 34 = v34 at *
            generalize hf35 : f 35 = v35 at *
            subst d3
            subst d4
            go_simp
            exact hK.out _ _ hG rfl (fun _ _ _ h => h) (fun _ _ h => h)
          · -- 6: Op.load 9 t36
            intro f w1 hG hO hL hF K hK
            have d5 : (grF w.heap.size w.heap.size (w.heap.size + 2) 2 2 25 9 (fun v => #[.bool true, (.slice A6 (m + 1) c6), v, .slice none 0 0]) (.slice Av m cv) (.slice (some ⟨b1, off1, none⟩) nk cb) (.int .i64 (i : Int)) (.pointer (some ⟨b1, off1 + i, none⟩)) (.string xv) (.slice A6 (m + 1) c6) m (strV vs')) 5 (f 36) (f 0) w1 := hF 5 (by kernel_rfl)
            clear hF hO hL
            dsimp only at hK ⊢
            generalize hf36 : f 36 = v36 at *
            subst d5
            have y := HCv.out w1 hG.bel
            go_simp
            exact hK.out _ _ hG rfl (fun _ _ _ h => h) (fun _ _ h => h)
          · -- 7: Op.buildSlice 22 1 #[(0, t37)]
            intro f w1 hG hO hL hF K hK
            have d6 : (grF w.heap.size w.heap.size (w.heap.size + 2) 2 2 25 9 (fun v => #[.bool true, (.slice A6 (m + 1) c6), v, .slice none 0 0]) (.slice Av m cv) (.slice (some ⟨b1, off1, none⟩) nk cb) (.int .i64 (i : Int)) (.pointer (some ⟨b1, off1 + i, none⟩)) (.string xv) (.slice A6 (m + 1) c6) m (strV vs')) 6 (f 37) (f 0) w1 := hF 6 (by kernel_rfl)
            clear hF hO hL
            dsimp only at hK ⊢
            generalize hf37 : f 37 = v37 at *
            subst d6
            go_simp
            exact hK.out _ _ (hG.next ((Below.refl _ _).alloc (Nat.le_refl _) _)) ⟨w1.heap.size, rfl, hG.s4, (by have := hG.lt; omega), (fun e => absurd (hG.kl _ e).2 (Nat.lt_irrefl _)), Bk.new w1 _ _⟩ (fun j _ _ h => grF_bel ((Below.refl _ _).alloc (Nat.le_refl _) _) j _ _ h) (fun m _ h => grH_bel ((Below.refl _ _).alloc (Nat.le_refl _) _) m h)
          · -- 8: Op.call ( builtin append, args := #[t32, t38], argTypes := #[22, 22] )
            intro f w1 hG hO hL hF K hK
            have l8 : (grH w.heap.size (w.heap.size + 2) 25 9 (fun v => #[.bool true, (.slice A6 (m + 1) c6), v, .slice none 0 0]) (.slice Av m cv) m (strV vs')) 8 w1 := hL 8 (Nat.le_of_ble_eq_true (by kernel_rfl)) (by kernel_rfl)
            have l10 : (grH w.heap.size (w.heap.size + 2) 25 9 (fun v => #[.bool true, (.slice A6 (m + 1) c6), v, .slice none 0 0]) (.slice Av m cv) m (strV vs')) 10 w1 := hL 10 (Nat.le_of_ble_eq_true (by kernel_rfl)) (by kernel_rfl)
            have d1 : (grF w.heap.size w.heap.size (w.heap.size + 2) 2 2 25 9 (fun v => #[.bool true, (.slice A6 (m + 1) c6), v, .slice none 0 0]) (.slice Av m cv) (.slice (some ⟨b1, off1, none⟩) nk cb) (.int .i64 (i : Int)) (.pointer (some ⟨b1, off1 + i, none⟩)) (.string xv) (.slice A6 (m + 1) c6) m (strV vs')) 1 (f 32) (f 0) w1 := hF 1 (by kernel_rfl)
            have d7 : (grF w.heap.size w.heap.size (w.heap.size + 2) 2 2 25 9 (fun v => #[.bool true, (.slice A6 (m + 1) c6), v, .slice none 0 0]) (.slice Av m cv) (.slice (some ⟨b1, off1, none⟩) nk cb) (.int .i64 (i : Int)) (.pointer (some ⟨b1, off1 + i, none⟩)) (.string xv) (.slice A6 (m + 1) c6) m (strV vs')) 7 (f 38) (f 0) w1 := hF 7 (by kernel_rfl)
            clear hF hO hL
            dsimp only at hK ⊢
            generalize hf32 : f 32 = v32 at *
            generalize hf38 : f 38 = v38 at *
            have d1 : v32 = (.slice Av m cv) := d1
            subst d1
            obtain ⟨g, rfl, h0, h1, h2, h3⟩ := d7
            have hcb : ∀ j u, [(.string xv)][j]? = some u → w1.cell? ((⟨g, 0, none⟩ : Addr).add j) = some u := fun j u hu => by
              rw [show ((⟨g, 0, none⟩ : Addr).add j) = ⟨g, j, none⟩ by unfold Addr.add; split <;> simp_all, h3.cell j]; simpa using hu
            obtain ⟨v', w2', hrun, hown, hgr, _, hat⟩ := run_append_own_at (P := Try.prog) (w := w1) w.heap.size 22 22 9 i0 _ 1 16 Try.underlying22 hi0 hz0 hz1 hz2 rfl (by decide) (.slice Av m cv) m (strV vs') l8 ⟨g, 0, none⟩ 1 1 [(.string xv)] rfl hcb (by intro u hu; simp only [List.mem_singleton] at hu; subst hu; rfl) (by simp only [maxLen]; omega) (by omega) hG.s4
            have ap1 : Apart v' (.slice A6 (m + 1) c6) := fun b hb hb2 => by
              rcases hat with h | h
              · exact HAP2.out b (h ▸ hb) hb2
              · rw [h] at hb
                injection hb with hb
                subst hb
                exact absurd (own_ge hG.o hb2).2 (Nat.lt_irrefl _)
            have kn : (Value.ownBlock (.slice Av m cv) = none ∨ (Value.ownBlock (.slice A6 (m + 1) c6)) ≠ Value.ownBlock (.slice Av m cv)) := by
              cases hK : Value.ownBlock (.slice Av m cv) with
              | none => exact Or.inl rfl
              | some b => exact Or.inr (HAP2.out b hK)
            have nkO : Value.ownBlock (.slice Av m cv) ≠ some (w.heap.size + 2) := own_tyne l8 l10 (by decide)
            have nkN : Value.ownBlock (.slice Av m cv) ≠ some w.heap.size := own_tyne l8 hG.nb (by decide)
            have nkR : Value.ownBlock (.slice Av m cv) ≠ some (w.heap.size + 1) := own_tyne l8 hG.res (by decide)
            refine Lib.wp_append_run w1 _ _ _ _ rfl _ _ rfl rfl _ w2' hrun (hK.out v' w2' (hG.app hgr nkN nkR kn) ⟨hown, ap1⟩ ?_ (fun m hm h => grH_app hgr nkO m hm h))
            intro j hj hdep h
            by_cases h10 : j = 10
            · subst h10
              exact absurd hdep (by rw [show depS _ 10 8 = true by kernel_rfl]; decide)
            · exact grF_app rfl hgr j hj h10 _ _ h
          · -- 9: Op.fieldAddr 25 t5 2
            intro f w1 hG hO hL hF K hK
            clear hF hO hL
            dsimp only at hK ⊢
            go_simp
            exact hK.out _ _ hG rfl (fun _ _ _ h => h) (fun _ _ h => h)
          · -- 10: Op.store 22 t40 t39
            intro f w1 hG hO hL hF K hK
            have l10 : (grH w.heap.size (w.heap.size + 2) 25 9 (fun v => #[.bool true, (.slice A6 (m + 1) c6), v, .slice none 0 0]) (.slice Av m cv) m (strV vs')) 10 w1 := hL 10 (Nat.le_of_ble_eq_true (by kernel_rfl)) (by kernel_rfl)
            have d9 : (grF w.heap.size w.heap.size (w.heap.size + 2) 2 2 25 9 (fun v => #[.bool true, (.slice A6 (m + 1) c6), v, .slice none 0 0]) (.slice Av m cv) (.slice (some ⟨b1, off1, none⟩) nk cb) (.int .i64 (i : Int)) (.pointer (some ⟨b1, off1 + i, none⟩)) (.string xv) (.slice A6 (m + 1) c6) m (strV vs')) 9 (f 40) (f 0) w1 := hF 9 (by kernel_rfl)
            have d8 : (grF w.heap.size w.heap.size (w.heap.size + 2) 2 2 25 9 (fun v => #[.bool true, (.slice A6 (m + 1) c6), v, .slice none 0 0]) (.slice Av m cv) (.slice (some ⟨b1, off1, none⟩) nk cb) (.int .i64 (i : Int)) (.pointer (some ⟨b1, off1 + i, none⟩)) (.string xv) (.slice A6 (m + 1) c6) m (strV vs')) 8 (f 39) (f 0) w1 := hF 8 (by kernel_rfl)
            clear hF hO hL
            dsimp only at hK ⊢
            generalize hf40 : f 40 = v40 at *
            generalize hf39 : f 39 = v39 at *
            subst d9
            have hd8 : w1.ownsRow w.heap.size 9 1 v39 (m + 1) ((strV vs') ++ [(.string xv)]) ∧ Apart v39 (.slice A6 (m + 1) c6) := d8
            clear d8
            obtain ⟨A5, c5, rfl, _, _⟩ := own_shape hd8.1
            have hl10 : Bk w1 (w.heap.size + 2) 25 #[.bool true, (.slice A6 (m + 1) c6), (.slice Av m cv), .slice none 0 0] := l10
            have y0 : w1.cell? ⟨(w.heap.size + 2), 2, none⟩ = some (.slice Av m cv) := Bk.cell hl10 2
            have f0 := Bk.frozen hl10 2
            have HD8 := Lib.hid hd8
            have HL10 := Lib.hid hl10
            have HG := Lib.hid hG
            clear hd8 hl10 l10 hG
            go_simp
            refine hK.out undef _ (HG.out.set HL10.out (by decide) 2 (.slice A5 (m + 1) c5)) ⟨_, HL10.out.put 2 (.slice A5 (m + 1) c5), own_st HD8.out.1 (Kept1.set w1 (w.heap.size + 2) 2 _) (own_tyne HD8.out.1 HL10.out (by decide)), HD8.out.2⟩ (fun j hj _ h => grF_set HL10.out (by decide) 2 _ j hj _ _ h) (fun m hm h => grH_set HL10.out (by decide) 2 _ m hm h)
          · intro f w6 hG hF
            obtain ⟨V', g1, g2', g3'⟩ : (grF w.heap.size w.heap.size (w.heap.size + 2) 2 2 25 9 (fun v => #[.bool true, (.slice A6 (m + 1) c6), v, .slice none 0 0]) (.slice Av m cv) (.slice (some ⟨b1, off1, none⟩) nk cb) (.int .i64 (i : Int)) (.pointer (some ⟨b1, off1 + i, none⟩)) (.string xv) (.slice A6 (m + 1) c6) m (strV vs')) 10 undef undef w6 := hF 10 (by decide)
            have HG3' := Lib.hid hG
            clear hF hG
            dsimp only
            generalize f 31 = v31
            generalize f 32 = v32
            generalize f 33 = v33
            generalize f 34 = v34
            generalize f 35 = v35
            generalize f 36 = v36
            generalize f 37 = v37
            generalize f 38 = v38
            generalize f 39 = v39
            generalize f 40 = v40
            have g4' := g2'
            obtain ⟨A7, c7, rfl, hc7, hs7⟩ := own_shape g2'
            have HS2 := Lib.hid (show SuS w #[.bool true, .slice (some ⟨b, off, none⟩) nk ca, .slice (some ⟨b1, off1, none⟩) nk cb, .slice C nc cc] (m + 1) (m + 1) (ks' ++ [xk]) (vs' ++ [xv]) (.slice A6 (m + 1) c6) (.slice A7 (m + 1) c7) w6 from
              ⟨HG3'.out.bel, HG3'.out.nb, HG3'.out.res, g1, by rw [strV_snoc]; exact HG3'.out.o, by rw [strV_snoc]; exact g4', g3'.sym⟩)
            clear g1 g2' g3' g4' hs7 G0 H0
            go_wp2_with fail
            rw [E1.out]
            refine ⟨⟨i + 1, m + 1, .slice A6 (m + 1) c6, .slice A7 (m + 1) c7, by omega, by omega, rfl, ?_⟩, M _ rfl⟩
            rw [HKe.out, HVe.out]
            exact HS2
    · have hii : i = nk := by omega
      have HF := Lib.hid hS.out
      have h2 : unT ks (atN ks x) (hitB ks x) i = unL ks (atN ks x) (hitB ks x) := by rw [hii, hlk.out]; rfl
      have h3 : unT vs (atN ks x) (hitB ks x) i = unL vs (atN ks x) (hitB ks x) := by rw [hii, hlv.out]; rfl
      rw [h2, h3] at HF
      have hlt' : ¬ i < nk := hlt
      clear hii h2 h3 hS
      have z0 := HF.out.ob.cell 0
      have z1 := HF.out.ob.cell 1
      have z2 := HF.out.ob.cell 2
      have z3 := HF.out.ob.cell 3
      have q0 := HF.out.res.cell 0
      have q1 := HF.out.res.cell 1
      have q2 := HF.out.res.cell 2
      have q3 := HF.out.res.cell 3
      have g0 := HF.out.res.frozen 0
      have g1 := HF.out.res.frozen 1
      have g2 := HF.out.res.frozen 2
      have g3 := HF.out.res.frozen 3
      have HB := Lib.hid ((((HF.out.bel.setCell (p := ⟨w.heap.size + 1, 0, none⟩) (show w.heap.size ≤ w.heap.size + 1 by omega) (.bool true)).setCell (p := ⟨w.heap.size + 1, 1, none⟩) (show w.heap.size ≤ w.heap.size + 1 by omega) (.slice Ak m ck)).setCell (p := ⟨w.heap.size + 1, 2, none⟩) (show w.heap.size ≤ w.heap.size + 1 by omega) (.slice Av m cv)).setCell (p := ⟨w.heap.size + 1, 3, none⟩) (show w.heap.size ≤ w.heap.size + 1 by omega) (.slice none 0 0))
      have hkk := (((Kept1.set wr (w.heap.size + 1) 0 (.bool true)).trans (Kept1.set _ (w.heap.size + 1) 1 (.slice Ak m ck))).trans (Kept1.set _ (w.heap.size + 1) 2 (.slice Av m cv))).trans (Kept1.set _ (w.heap.size + 1) 3 (.slice none 0 0))
      have HR1 := Lib.hid (own_apart HF.out.ok HF.out.res (by decide) hkk)
      have HR2 := Lib.hid (own_apart HF.out.ov HF.out.res (by decide) hkk)
      clear hkk
      go_wp2_with fail
      exact bodyPost_ret (v := .agg #[.bool true, .slice Ak m ck, .slice Av m cv, .slice none 0 0]) (by simp [results, Try.results24, go_sem, q0, q1, q2, q3]) rfl ⟨⟨_, _, _, rfl, HR1.out, HR2.out⟩, HB.out⟩
end Go.Proofs.Ytcnfnfnmpifahaa
