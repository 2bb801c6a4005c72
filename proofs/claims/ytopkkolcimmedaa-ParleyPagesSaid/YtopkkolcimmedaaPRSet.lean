/- The reference's Set of a leaf. Condition: the leaf is in form and its rows lie in memory. -/
import Derived.Test.YtopkkolcimmedaaPGr
import Derived.Test.YtopkkolcimmedaaPFA
import Derived.Test.YtopkkolcimmedaaPFind
import Derived.Test.YtopkkolcimmedaaNdA
import Derived.LoopTactic
import Derived.Deep.LoopGhost
import Derived.WalkLawsBesides
import Derived.BigQuiet
import Derived.Deep.QuietTactic
import Derived.Deep.CutBlock
import Derived.Deep.DeepCutAuto
namespace Go.Proofs.Ytopkkolcimmedaa
open Go.RowKit

theorem AL1 (w : World) (x : ByteArray) : Below w.heap.size w (w.alloc (.cells #[.string x] 9)) := (Below.refl _ _).alloc (Nat.le_refl _) _
theorem cell_new0 (w : World) (u : Value) (e : TypeId) : ∀ j v, [u][j]? = some v → (w.alloc (.cells #[u] e)).cell? ((⟨w.heap.size, 0, none⟩ : Addr).add j) = some v := by
  intro j v hv
  have hj : j = 0 := by
    have := (List.getElem?_eq_some_iff.1 hv).1
    simp at this
    exact this
  subst hj
  rw [show ((⟨w.heap.size, 0, none⟩ : Addr).add 0) = ⟨w.heap.size, 0, none⟩ by unfold Addr.add; split <;> simp_all, cell_of_row _ _ 0 #[u] e (0, 0) (heap_alloc_new w _)]
  simpa using hv
set_option maxRecDepth 100000 in
set_option maxHeartbeats 4000000 in
/-- The reference's Set. -/
theorem rset_any (ks vs : List ByteArray) (cs : List Int) (A B C : Option Addr) (nk ca cb nc cc : Nat) (x y : ByteArray) (w : World) (h : Nd w ⟨true, ks, vs, cs⟩ A B C nk ca nk cb nc cc) (hk : keysOk ks = true) (hbk : nk ≤ 8796093021952) :
    Calls Try.prog 5 #[.agg #[.bool true, .slice A nk ca, .slice B nk cb, .slice C nc cc], .string x, .string y] w fun e w' => (∃ K V m, e = .returned (.agg #[.bool true, K, V, .slice none 0 0]) ∧ w'.ownsRow w.heap.size 9 1 K m (strV (setK ks x)) ∧ w'.ownsRow w.heap.size 9 1 V m (strV (setV ks vs x y))) ∧ Below w.heap.size w w' := by
  obtain ⟨i0, hi0, hz0, hz1, hz2⟩ := info_parts info_str
  have H := Lib.hid h
  have bk : nk ≤ 8796093022208 := h.bk
  have HK := Lib.hid hk
  have hlk := Lib.hid (show nk = ks.length from h.ek)
  have hlv := Lib.hid (show nk = vs.length from h.ev)
  obtain ⟨wc, hwc⟩ : ∃ wc, wc = ((w.alloc (.cells #[.bool true, .slice A nk ca, .slice B nk cb, .slice C nc cc] 30)).alloc (.cells #[.bool false, .slice none 0 0, .slice none 0 0, .slice none 0 0] 30)).alloc (.cells #[.bool true, .slice none 0 0, .slice none 0 0, .slice none 0 0] 30) := ⟨_, rfl⟩
  have HS0 := Lib.hid (show SuS w #[.bool true, .slice A nk ca, .slice B nk cb, .slice C nc cc] 0 0 [] [] (.slice none 0 0) (.slice none 0 0) wc by
    rw [hwc]
    have k1 := Bk.new (w.alloc (.cells #[.bool true, .slice A nk ca, .slice B nk cb, .slice C nc cc] 30)) 30 #[.bool false, .slice none 0 0, .slice none 0 0, .slice none 0 0]
    have k2 := Bk.new ((w.alloc (.cells #[.bool true, .slice A nk ca, .slice B nk cb, .slice C nc cc] 30)).alloc (.cells #[.bool false, .slice none 0 0, .slice none 0 0, .slice none 0 0] 30)) 30 #[.bool true, .slice none 0 0, .slice none 0 0, .slice none 0 0]
    rw [World.size_alloc] at k1
    rw [World.size_alloc, World.size_alloc] at k2
    exact ⟨(((Below.refl _ _).alloc (Nat.le_refl _) _).alloc (by simp) _).alloc (by simp; omega) _, ((Bk.new w _ _).alloc _).alloc _, k1.alloc _, k2, World.ownsRow_nil _ _ _ _, World.ownsRow_nil _ _ _ _, apart_nil0 _⟩)
  have HWC := Lib.hid hwc
  have y1 := HS0.out.nb.cell 1
  clear h hk hwc
  go_enter Try.func5, Try.ntmps5
  go_upto_region 2 with fail
  rw [← HWC.out]
  have y0 := HS0.out.nb.cell 0
  have y2 := HS0.out.nb.cell 2
  have y3 := HS0.out.nb.cell 3
  have CF := Lib.hid (rfind_any true ks vs cs A B C nk ca nk cb nc cc x wc (H.out.bel HS0.out.bel))
  go_wp2_with fail
  refine CF.out.mono ?_
  rintro e w1 ⟨rfl, hb1⟩
  have HS1 := Lib.hid (HS0.out.next hb1)
  clear hb1 CF y0 y1 y2 y3 HS0 HWC
  have ha0 := atN_le ks x
  obtain ⟨a, hae⟩ : ∃ a, a = atN ks x := ⟨_, rfl⟩
  obtain ⟨ht, hte⟩ : ∃ t, t = hitB ks x := ⟨_, rfl⟩
  rw [← hae, ← hte]
  have HT := Lib.hid (show setK ks x = putL ks a ht.toNat x ∧ setV ks vs x y = putL vs a ht.toNat y by rw [hae, hte]; exact ⟨rfl, rfl⟩)
  have HTA := Lib.hid (show ht = true → a < nk by
    intro h1
    have h2 := (hit_at HK.out (hte ▸ h1)).1
    rw [← hae, ← hlk.out] at h2
    exact h2)
  rw [← hae] at ha0
  rw [← hlk.out] at ha0
  clear hae hte
  go_wp2_with fail
  go_loopw [10] (fun s wr => ∃ (i m : Nat) (K V : Value), i ≤ nk + 1 ∧ (m ≤ i + 1 ∧ (i ≤ a → m ≤ i)) ∧ s = .int .i64 i ∧ Hid (SuS w #[.bool true, .slice A nk ca, .slice B nk cb, .slice C nc cc] m m (putT ks a ht.toNat x i) (putT vs a ht.toNat y i) K V wr)) (fun s _ => nk + 1 - (intOf s).toNat)
  case atStart => exact ⟨0, 0, _, _, by omega, ⟨by omega, fun h => by omega⟩, rfl, by rw [putT_zero, putT_zero]; exact HS1⟩
  case round =>
    clear HS1
    obtain ⟨i, m, K, V, hin, ⟨hmi, hmj⟩, rfl, hS⟩ := hrel
    obtain ⟨Ak, ck, rfl, hck, _⟩ := own_shape hS.out.ok
    obtain ⟨Av, cv, rfl, hcv, _⟩ := own_shape hS.out.ov
    have E1 := Lib.hid (show ((i : Int) + 1) = ((i + 1 : Nat) : Int) by omega)
    have M : ∀ kk : Nat, i ≤ nk → kk = i + 1 → (nk + 1 - (intOf (.int .i64 (kk : Int))).toNat < nk + 1 - (intOf (.int .i64 (i : Int))).toNat) := fun kk h0 hk2 => by subst hk2; simp only [intOf]; omega
    by_cases hle : i ≤ nk
    · have HM := Lib.hid (M (i + 1) hle rfl)
      clear M
      have y1 := hS.out.nb.cell 1
      by_cases hia : i = a
      · subst hia
        have hee : ((i : Int) == (i : Int)) = true := by simp
        obtain ⟨ks', hks'⟩ : ∃ l, l = putT ks i ht.toNat x i := ⟨_, rfl⟩
        obtain ⟨vs', hvs'⟩ : ∃ l, l = putT vs i ht.toNat y i := ⟨_, rfl⟩
        have PH := Lib.hid (show ht = true → putT ks i ht.toNat x (i + 1) = ks' ++ [x] ∧ putT vs i ht.toNat y (i + 1) = vs' ++ [y] by
          intro h1; rw [hks', hvs', h1]; exact ⟨putT_hit, putT_hit⟩)
        have PE := Lib.hid (show ht = false → i = nk → putT ks i ht.toNat x (i + 1) = ks' ++ [x] ∧ putT vs i ht.toNat y (i + 1) = vs' ++ [y] by
          intro h1 h2; rw [hks', hvs', h1]; exact ⟨putT_end (by rw [h2]; exact hlk.out), putT_end (by rw [h2]; exact hlv.out)⟩)
        have PN := Lib.hid (show ht = false → ∀ (h1 : i < ks.length) (h2 : i < vs.length), putT ks i ht.toNat x (i + 1) = (ks' ++ [x]) ++ [ks[i]] ∧ putT vs i ht.toNat y (i + 1) = (vs' ++ [y]) ++ [vs[i]] by
          intro h0 h1 h2; rw [hks', hvs', h0]; exact ⟨putT_at h1, putT_at h2⟩)
        rw [← hks', ← hvs'] at hS
        clear hks' hvs'
        have x1 := hS.out.ob.cell 1
        have HSx := Lib.hid (hS.out.next (AL1 wr x))
        have CN := Lib.hid (cell_new0 wr (.string x) 9)
        clear hS
        go_upto_region 8 with (at_builtin; refine wpList_append_own_at _ rfl _ _ _ rfl w.heap.size 9 i0 _ 1 16 Try.underlying27 hi0 hz0 hz1 hz2 rfl (by decide) (.slice Ak m ck) m (strV ks') rfl HSx.out.ok ⟨wr.heap.size, 0, none⟩ 1 1 [.string x] rfl rfl CN.out (by intro u hu; simp only [List.mem_singleton] at hu; subst hu; rfl) (by simp only [maxLen]; omega) (by omega) HSx.out.bel.size ?_; intro K2 w2 o2 hg2 _ hat2; obtain ⟨A2, c2, rfl, hc2, _⟩ := own_shape o2; have HP2 := Lib.hid (HSx.out.key HSx.out.bel.size o2 hg2 hat2); have p1 := HP2.out.1.cell 1; have p2 := HP2.out.1.frozen 1; clear o2 hg2 hat2)
        obtain ⟨w3, hw3⟩ : ∃ w3, w3 = w2.setCell ⟨w.heap.size + 2, 1, none⟩ (.slice A2 (m + 1) c2) := ⟨_, rfl⟩
        rw [← hw3]
        have HS3 := Lib.hid (hw3 ▸ HP2.out.2)
        clear HP2 hw3 p1 p2 x1 HSx CN y1
        have x2 := HS3.out.ob.cell 2
        have HSx := Lib.hid (HS3.out.next (AL1 w3 y))
        have CN := Lib.hid (cell_new0 w3 (.string y) 9)
        clear HS3
        go_upto_region 9 with (at_builtin; refine wpList_append_own_at _ rfl _ _ _ rfl w.heap.size 9 i0 _ 1 16 Try.underlying27 hi0 hz0 hz1 hz2 rfl (by decide) (.slice Av m cv) m (strV vs') rfl HSx.out.ov ⟨w3.heap.size, 0, none⟩ 1 1 [.string y] rfl rfl CN.out (by intro u hu; simp only [List.mem_singleton] at hu; subst hu; rfl) (by simp only [maxLen]; omega) (by omega) HSx.out.bel.size ?_; intro V2 w4 o2 hg2 _ hat2; obtain ⟨B2, d2, rfl, hd2, _⟩ := own_shape o2; have HP2 := Lib.hid (HSx.out.val HSx.out.bel.size o2 hg2 hat2); have p1 := HP2.out.1.cell 2; have p2 := HP2.out.1.frozen 2; clear o2 hg2 hat2)
        obtain ⟨w5, hw5⟩ : ∃ w5, w5 = w4.setCell ⟨w.heap.size + 2, 2, none⟩ (.slice B2 (m + 1) d2) := ⟨_, rfl⟩
        rw [← hw5]
        have HS5 := Lib.hid (hw5 ▸ HP2.out.2)
        clear HP2 hw5 p1 p2 x2 HSx CN
        have y1 := HS5.out.nb.cell 1
        cases ht
        · by_cases hlt : i < nk
          · have hks : i < ks.length := by have := hlk.out; omega
            have hvs : i < vs.length := by have := hlv.out; omega
            obtain ⟨b, off, rfl, hbs, hc⟩ := (H.out.sk).str hks
            obtain ⟨b1, off1, rfl, hbs1, hc1⟩ := (H.out.sv).str hvs
            obtain ⟨xk, hxk⟩ : ∃ y, y = ks[i] := ⟨_, rfl⟩
            obtain ⟨xv, hxv⟩ : ∃ y, y = vs[i] := ⟨_, rfl⟩
            have i1 : (0 : Int) ≤ (i : Int) := by omega
            have PF := Lib.hid (PN.out rfl hks hvs)
            rw [← hxk, ← hxv] at PF
            clear PH PE PN
            rw [← hxk] at hc
            rw [← hxv] at hc1
            have HCk := Lib.hid (show ∀ w1, Below w.heap.size w w1 → w1.cell? ⟨b, off + i, none⟩ = some (.string xk) from fun w1 hb => (World.cell?_of_block (w := w) (a := ⟨b, off + i, none⟩) (hb.block b hbs)).trans hc)
            have HCv := Lib.hid (show ∀ w1, Below w.heap.size w w1 → w1.cell? ⟨b1, off1 + i, none⟩ = some (.string xv) from fun w1 hb => (World.cell?_of_block (w := w) (a := ⟨b1, off1 + i, none⟩) (hb.block b1 hbs1)).trans hc1)
            clear hc hc1 hbs hbs1 hks hvs hxk hxv
            have hS := HS5.out
            clear HS5
            obtain ⟨ks2, hks2⟩ : ∃ l, l = ks' ++ [x] := ⟨_, rfl⟩
            obtain ⟨vs2, hvs2⟩ : ∃ l, l = vs' ++ [y] := ⟨_, rfl⟩
            rw [← hks2, ← hvs2] at hS PF
            clear hks2 hvs2
            obtain ⟨m1, hm1⟩ : ∃ m1, m1 = m + 1 := ⟨_, rfl⟩
            rw [← hm1] at hS hc2 hd2 ⊢
            have hm1b : m1 ≤ i + 1 := by have := hmj (Nat.le_refl _); omega
            have hm1c : m1 ≤ nk + 1 := by omega
            clear hm1
            have HS := Lib.hid hS
            have HAP := Lib.hid hS.ap
            clear hS
            have G0 := Lib.hid (show GrG w w.heap.size w.heap.size (w.heap.size + 1) (w.heap.size + 2) 30 #[.bool true, .slice (some ⟨b, off, none⟩) nk ca, .slice (some ⟨b1, off1, none⟩) nk cb, .slice C nc cc] #[.bool false, .slice none 0 0, .slice none 0 0, .slice none 0 0] 9 (.slice B2 m1 d2) m1 (strV vs2) (Value.ownBlock (.slice A2 m1 c2)) w5.drew from
              ⟨HS.out.bel.drew, HS.out.ob.lt, HS.out.nb, HS.out.res, own_belS HS.out.ov (Below.refl _ _).drew, fun b e => own_ge HS.out.ok e, by omega, by omega, by omega, HS.out.bel.size⟩)
            have H0 := Lib.hid (show ∀ m', m' < 11 → grH w.heap.size (w.heap.size + 2) 30 9 (fun v => #[.bool true, v, (.slice B2 m1 d2), .slice none 0 0]) (.slice A2 m1 c2) m1 (strV ks2) m' w5.drew from fun m' _ => by
              unfold grH
              split
              · exact own_belS HS.out.ok (Below.refl _ _).drew
              · exact HS.out.ob
              · trivial)
            go_wp2_with fail
            refine wp_region_late [some 54, some 55, some 56, some 57, some 58, some 59, some 60, some 61, some 62, some 63, none] (fun _ => 0) (grF w.heap.size w.heap.size (w.heap.size + 2) 1 1 30 9 (fun v => #[.bool true, v, (.slice B2 m1 d2), .slice none 0 0]) (.slice A2 m1 c2) (.slice (some ⟨b, off, none⟩) nk ca) (.int .i64 (i : Int)) (.pointer (some ⟨b, off + i, none⟩)) (.string xk) (.slice B2 m1 d2) m1 (strV ks2)) (GrG w w.heap.size w.heap.size (w.heap.size + 1) (w.heap.size + 2) 30 #[.bool true, .slice (some ⟨b, off, none⟩) nk ca, .slice (some ⟨b1, off1, none⟩) nk cb, .slice C nc cc] #[.bool false, .slice none 0 0, .slice none 0 0, .slice none 0 0] 9 (.slice B2 m1 d2) m1 (strV vs2) (Value.ownBlock (.slice A2 m1 c2))) (grH w.heap.size (w.heap.size + 2) 30 9 (fun v => #[.bool true, v, (.slice B2 m1 d2), .slice none 0 0]) (.slice A2 m1 c2) m1 (strV ks2)) (by kernel_rfl) G0.out H0.out rfl (by kernel_rfl) (by kernel_rfl) (by kernel_rfl) (by kernel_rfl) (fun T hT => ?_)
            simp only [List.filterMap_cons, List.filterMap_nil, id, putsS, Act.put, List.setIfInBounds_toArray, List.set_cons_zero, List.set_cons_succ] at hT
            subst hT
            refine ⟨⟨?_, ?_, ?_, ?_, ?_, ?_, ?_, ?_, ?_, ?_, ?_, trivial⟩, ?_⟩
            · -- 0: Op.fieldAddr 25 t7 1
              intro f w1 hG hO hL hF K hK
              clear hF hO hL
              dsimp only at hK ⊢
              go_simp
              exact hK.out _ _ hG rfl (fun _ _ _ h => h) (fun _ _ h => h)
            · -- 1: Op.load 22 t54
              intro f w1 hG hO hL hF K hK
              have l10 : (grH w.heap.size (w.heap.size + 2) 30 9 (fun v => #[.bool true, v, (.slice B2 m1 d2), .slice none 0 0]) (.slice A2 m1 c2) m1 (strV ks2)) 10 w1 := hL 10 (Nat.le_of_ble_eq_true (by kernel_rfl)) (by kernel_rfl)
              have d0 : (grF w.heap.size w.heap.size (w.heap.size + 2) 1 1 30 9 (fun v => #[.bool true, v, (.slice B2 m1 d2), .slice none 0 0]) (.slice A2 m1 c2) (.slice (some ⟨b, off, none⟩) nk ca) (.int .i64 (i : Int)) (.pointer (some ⟨b, off + i, none⟩)) (.string xk) (.slice B2 m1 d2) m1 (strV ks2)) 0 (f 54) (f 0) w1 := hF 0 (by kernel_rfl)
              clear hF hO hL
              dsimp only at hK ⊢
              generalize hf54 : f 54 = v54 at *
              subst d0
              have y : w1.cell? ⟨(w.heap.size + 2), 1, none⟩ = some (.slice A2 m1 c2) := Bk.cell l10 1
              go_simp
              exact hK.out _ _ hG rfl (fun _ _ _ h => h) (fun _ _ h => h)
            · -- 2: Op.fieldAddr 25 t3 1
              intro f w1 hG hO hL hF K hK
              clear hF hO hL
              dsimp only at hK ⊢
              go_simp
              exact hK.out _ _ hG rfl (fun _ _ _ h => h) (fun _ _ h => h)
            · -- 3: Op.load 22 t56
              intro f w1 hG hO hL hF K hK
              have d2 : (grF w.heap.size w.heap.size (w.heap.size + 2) 1 1 30 9 (fun v => #[.bool true, v, (.slice B2 m1 d2), .slice none 0 0]) (.slice A2 m1 c2) (.slice (some ⟨b, off, none⟩) nk ca) (.int .i64 (i : Int)) (.pointer (some ⟨b, off + i, none⟩)) (.string xk) (.slice B2 m1 d2) m1 (strV ks2)) 2 (f 56) (f 0) w1 := hF 2 (by kernel_rfl)
              clear hF hO hL
              dsimp only at hK ⊢
              generalize hf56 : f 56 = v56 at *
              subst d2
              have y := Bk.cell hG.nb 1
              go_simp
              exact hK.out _ _ hG rfl (fun _ _ _ h => h) (fun _ _ h => h)
            · -- 4: Op.move t10
              intro f w1 hG hO hL hF K hK
              clear hF hO hL
              dsimp only at hK ⊢
              go_simp
              exact hK.out _ _ hG rfl (fun _ _ _ h => h) (fun _ _ h => h)
            · -- 5: Op.indexAddr 22 t57 t58
              intro f w1 hG hO hL hF K hK
              have d3 : (grF w.heap.size w.heap.size (w.heap.size + 2) 1 1 30 9 (fun v => #[.bool true, v, (.slice B2 m1 d2), .slice none 0 0]) (.slice A2 m1 c2) (.slice (some ⟨b, off, none⟩) nk ca) (.int .i64 (i : Int)) (.pointer (some ⟨b, off + i, none⟩)) (.string xk) (.slice B2 m1 d2) m1 (strV ks2)) 3 (f 57) (f 0) w1 := hF 3 (by kernel_rfl)
              have d4 : (grF w.heap.size w.heap.size (w.heap.size + 2) 1 1 30 9 (fun v => #[.bool true, v, (.slice B2 m1 d2), .slice none 0 0]) (.slice A2 m1 c2) (.slice (some ⟨b, off, none⟩) nk ca) (.int .i64 (i : Int)) (.pointer (some ⟨b, off + i, none⟩)) (.string xk) (.slice B2 m1 d2) m1 (strV ks2)) 4 (f 58) (f 0) w1 := hF 4 (by kernel_rfl)
              clear hF hO hL
              dsimp only at hK ⊢
              generalize hf57 : f 57 = v57 at *
              generalize hf58 : f 58 = v58 at *
              subst d3
              subst d4
              go_simp
              exact hK.out _ _ hG rfl (fun _ _ _ h => h) (fun _ _ h => h)
            · -- 6: Op.load 9 t59
              intro f w1 hG hO hL hF K hK
              have d5 : (grF w.heap.size w.heap.size (w.heap.size + 2) 1 1 30 9 (fun v => #[.bool true, v, (.slice B2 m1 d2), .slice none 0 0]) (.slice A2 m1 c2) (.slice (some ⟨b, off, none⟩) nk ca) (.int .i64 (i : Int)) (.pointer (some ⟨b, off + i, none⟩)) (.string xk) (.slice B2 m1 d2) m1 (strV ks2)) 5 (f 59) (f 0) w1 := hF 5 (by kernel_rfl)
              clear hF hO hL
              dsimp only at hK ⊢
              generalize hf59 : f 59 = v59 at *
              subst d5
              have y := HCk.out w1 hG.bel
              go_simp
              exact hK.out _ _ hG rfl (fun _ _ _ h => h) (fun _ _ h => h)
            · -- 7: Op.buildSlice 22 1 #[(0, t60)]
              intro f w1 hG hO hL hF K hK
              have d6 : (grF w.heap.size w.heap.size (w.heap.size + 2) 1 1 30 9 (fun v => #[.bool true, v, (.slice B2 m1 d2), .slice none 0 0]) (.slice A2 m1 c2) (.slice (some ⟨b, off, none⟩) nk ca) (.int .i64 (i : Int)) (.pointer (some ⟨b, off + i, none⟩)) (.string xk) (.slice B2 m1 d2) m1 (strV ks2)) 6 (f 60) (f 0) w1 := hF 6 (by kernel_rfl)
              clear hF hO hL
              dsimp only at hK ⊢
              generalize hf60 : f 60 = v60 at *
              subst d6
              go_simp
              exact hK.out _ _ (hG.next ((Below.refl _ _).alloc (Nat.le_refl _) _)) ⟨w1.heap.size, rfl, hG.s4, (by have := hG.lt; omega), (fun e => absurd (hG.kl _ e).2 (Nat.lt_irrefl _)), Bk.new w1 _ _⟩ (fun j _ _ h => grF_bel ((Below.refl _ _).alloc (Nat.le_refl _) _) j _ _ h) (fun m _ h => grH_bel ((Below.refl _ _).alloc (Nat.le_refl _) _) m h)
            · -- 8: Op.call ( builtin append, args := #[t55, t61], argTypes := #[22, 22] )
              intro f w1 hG hO hL hF K hK
              have l8 : (grH w.heap.size (w.heap.size + 2) 30 9 (fun v => #[.bool true, v, (.slice B2 m1 d2), .slice none 0 0]) (.slice A2 m1 c2) m1 (strV ks2)) 8 w1 := hL 8 (Nat.le_of_ble_eq_true (by kernel_rfl)) (by kernel_rfl)
              have l10 : (grH w.heap.size (w.heap.size + 2) 30 9 (fun v => #[.bool true, v, (.slice B2 m1 d2), .slice none 0 0]) (.slice A2 m1 c2) m1 (strV ks2)) 10 w1 := hL 10 (Nat.le_of_ble_eq_true (by kernel_rfl)) (by kernel_rfl)
              have d1 : (grF w.heap.size w.heap.size (w.heap.size + 2) 1 1 30 9 (fun v => #[.bool true, v, (.slice B2 m1 d2), .slice none 0 0]) (.slice A2 m1 c2) (.slice (some ⟨b, off, none⟩) nk ca) (.int .i64 (i : Int)) (.pointer (some ⟨b, off + i, none⟩)) (.string xk) (.slice B2 m1 d2) m1 (strV ks2)) 1 (f 55) (f 0) w1 := hF 1 (by kernel_rfl)
              have d7 : (grF w.heap.size w.heap.size (w.heap.size + 2) 1 1 30 9 (fun v => #[.bool true, v, (.slice B2 m1 d2), .slice none 0 0]) (.slice A2 m1 c2) (.slice (some ⟨b, off, none⟩) nk ca) (.int .i64 (i : Int)) (.pointer (some ⟨b, off + i, none⟩)) (.string xk) (.slice B2 m1 d2) m1 (strV ks2)) 7 (f 61) (f 0) w1 := hF 7 (by kernel_rfl)
              clear hF hO hL
              dsimp only at hK ⊢
              generalize hf55 : f 55 = v55 at *
              generalize hf61 : f 61 = v61 at *
              have d1 : v55 = (.slice A2 m1 c2) := d1
              subst d1
              obtain ⟨g, rfl, h0, h1, h2, h3⟩ := d7
              have hcb : ∀ j u, [(.string xk)][j]? = some u → w1.cell? ((⟨g, 0, none⟩ : Addr).add j) = some u := fun j u hu => by
                rw [show ((⟨g, 0, none⟩ : Addr).add j) = ⟨g, j, none⟩ by unfold Addr.add; split <;> simp_all, h3.cell j]; simpa using hu
              obtain ⟨v', w2', hrun, hown, hgr, _, hat⟩ := run_append_own_at (P := Try.prog) (w := w1) w.heap.size 27 27 9 i0 _ 1 16 Try.underlying27 hi0 hz0 hz1 hz2 rfl (by decide) (.slice A2 m1 c2) m1 (strV ks2) l8 ⟨g, 0, none⟩ 1 1 [(.string xk)] rfl hcb (by intro u hu; simp only [List.mem_singleton] at hu; subst hu; rfl) (by simp only [maxLen]; omega) (by omega) hG.s4
              have ap1 : Apart v' (.slice B2 m1 d2) := fun b hb hb2 => by
                rcases hat with h | h
                · exact HAP.out b (h ▸ hb) hb2
                · rw [h] at hb
                  injection hb with hb
                  subst hb
                  exact absurd (own_ge hG.o hb2).2 (Nat.lt_irrefl _)
              have kn : (Value.ownBlock (.slice A2 m1 c2) = none ∨ (Value.ownBlock (.slice B2 m1 d2)) ≠ Value.ownBlock (.slice A2 m1 c2)) := by
                cases hK : Value.ownBlock (.slice A2 m1 c2) with
                | none => exact Or.inl rfl
                | some b => exact Or.inr (HAP.out b hK)
              have nkO : Value.ownBlock (.slice A2 m1 c2) ≠ some (w.heap.size + 2) := own_tyne l8 l10 (by decide)
              have nkN : Value.ownBlock (.slice A2 m1 c2) ≠ some w.heap.size := own_tyne l8 hG.nb (by decide)
              have nkR : Value.ownBlock (.slice A2 m1 c2) ≠ some (w.heap.size + 1) := own_tyne l8 hG.res (by decide)
              refine Lib.wp_append_run w1 _ _ _ _ rfl _ _ rfl rfl _ w2' hrun (hK.out v' w2' (hG.app hgr nkN nkR kn) ⟨hown, ap1⟩ ?_ (fun m hm h => grH_app hgr nkO m hm h))
              intro j hj hdep h
              by_cases h10 : j = 10
              · subst h10
                exact absurd hdep (by rw [show depS _ 10 8 = true by kernel_rfl]; decide)
              · exact grF_app rfl hgr j hj h10 _ _ h
            · -- 9: Op.fieldAddr 25 t7 1
              intro f w1 hG hO hL hF K hK
              clear hF hO hL
              dsimp only at hK ⊢
              go_simp
              exact hK.out _ _ hG rfl (fun _ _ _ h => h) (fun _ _ h => h)
            · -- 10: Op.store 22 t63 t62
              intro f w1 hG hO hL hF K hK
              have l10 : (grH w.heap.size (w.heap.size + 2) 30 9 (fun v => #[.bool true, v, (.slice B2 m1 d2), .slice none 0 0]) (.slice A2 m1 c2) m1 (strV ks2)) 10 w1 := hL 10 (Nat.le_of_ble_eq_true (by kernel_rfl)) (by kernel_rfl)
              have d9 : (grF w.heap.size w.heap.size (w.heap.size + 2) 1 1 30 9 (fun v => #[.bool true, v, (.slice B2 m1 d2), .slice none 0 0]) (.slice A2 m1 c2) (.slice (some ⟨b, off, none⟩) nk ca) (.int .i64 (i : Int)) (.pointer (some ⟨b, off + i, none⟩)) (.string xk) (.slice B2 m1 d2) m1 (strV ks2)) 9 (f 63) (f 0) w1 := hF 9 (by kernel_rfl)
              have d8 : (grF w.heap.size w.heap.size (w.heap.size + 2) 1 1 30 9 (fun v => #[.bool true, v, (.slice B2 m1 d2), .slice none 0 0]) (.slice A2 m1 c2) (.slice (some ⟨b, off, none⟩) nk ca) (.int .i64 (i : Int)) (.pointer (some ⟨b, off + i, none⟩)) (.string xk) (.slice B2 m1 d2) m1 (strV ks2)) 8 (f 62) (f 0) w1 := hF 8 (by kernel_rfl)
              clear hF hO hL
              dsimp only at hK ⊢
              generalize hf63 : f 63 = v63 at *
              generalize hf62 : f 62 = v62 at *
              subst d9
              have hd8 : w1.ownsRow w.heap.size 9 1 v62 (m1 + 1) ((strV ks2) ++ [(.string xk)]) ∧ Apart v62 (.slice B2 m1 d2) := d8
              clear d8
              obtain ⟨A5, c5, rfl, _, _⟩ := own_shape hd8.1
              have hl10 : Bk w1 (w.heap.size + 2) 30 #[.bool true, (.slice A2 m1 c2), (.slice B2 m1 d2), .slice none 0 0] := l10
              have y0 : w1.cell? ⟨(w.heap.size + 2), 1, none⟩ = some (.slice A2 m1 c2) := Bk.cell hl10 1
              have f0 := Bk.frozen hl10 1
              have HD8 := Lib.hid hd8
              have HL10 := Lib.hid hl10
              have HG := Lib.hid hG
              clear hd8 hl10 l10 hG
              go_simp
              refine hK.out undef _ (HG.out.set HL10.out (by decide) 1 (.slice A5 (m1 + 1) c5)) ⟨_, HL10.out.put 1 (.slice A5 (m1 + 1) c5), own_st HD8.out.1 (Kept1.set w1 (w.heap.size + 2) 1 _) (own_tyne HD8.out.1 HL10.out (by decide)), HD8.out.2⟩ (fun j hj _ h => grF_set HL10.out (by decide) 1 _ j hj _ _ h) (fun m hm h => grH_set HL10.out (by decide) 1 _ m hm h)
            · intro f w6 hG hF
              obtain ⟨V', g1, g2', g3'⟩ : (grF w.heap.size w.heap.size (w.heap.size + 2) 1 1 30 9 (fun v => #[.bool true, v, (.slice B2 m1 d2), .slice none 0 0]) (.slice A2 m1 c2) (.slice (some ⟨b, off, none⟩) nk ca) (.int .i64 (i : Int)) (.pointer (some ⟨b, off + i, none⟩)) (.string xk) (.slice B2 m1 d2) m1 (strV ks2)) 10 undef undef w6 := hF 10 (by decide)
              have HG1 := Lib.hid hG
              clear hF hG
              dsimp only
              generalize f 54 = v54
              generalize f 55 = v55
              generalize f 56 = v56
              generalize f 57 = v57
              generalize f 58 = v58
              generalize f 59 = v59
              generalize f 60 = v60
              generalize f 61 = v61
              generalize f 62 = v62
              generalize f 63 = v63
              have HG2 := Lib.hid g2'
              obtain ⟨A6, c6, rfl, hc6, hs6⟩ := own_shape g2'
              have HG3 := Lib.hid g3'
              have HG1' := Lib.hid g1
              clear g1 g2' g3' hs6 G0 H0
              have G0 := Lib.hid (show GrG w w.heap.size w.heap.size (w.heap.size + 1) (w.heap.size + 2) 30 #[.bool true, .slice (some ⟨b, off, none⟩) nk ca, .slice (some ⟨b1, off1, none⟩) nk cb, .slice C nc cc] #[.bool false, .slice none 0 0, .slice none 0 0, .slice none 0 0] 9 (.slice A6 (m1 + 1) c6) (m1 + 1) (strV ks2 ++ [.string xk]) (Value.ownBlock (.slice B2 m1 d2)) w6.drew from
                ⟨HG1.out.bel.drew, HG1.out.lt, HG1.out.nb, HG1.out.res, own_belS HG2.out (Below.refl _ _).drew, fun b e => own_ge HG1.out.o e, by omega, by omega, by omega, HG1.out.s4⟩)
              have H0 := Lib.hid (show ∀ m', m' < 11 → grH w.heap.size (w.heap.size + 2) 30 9 (fun v => #[.bool true, (.slice A6 (m1 + 1) c6), v, .slice none 0 0]) (.slice B2 m1 d2) m1 (strV vs2) m' w6.drew from fun m' _ => by
                unfold grH
                split
                · exact own_belS HG1.out.o (Below.refl _ _).drew
                · exact HG1'.out
                · trivial)
              have HAP2 := Lib.hid (show Apart (.slice B2 m1 d2) (.slice A6 (m1 + 1) c6) from HG3.out.sym)
              go_wp2_with fail
              refine wp_region_late [some 64, some 65, some 66, some 67, some 68, some 69, some 70, some 71, some 72, some 73, none] (fun _ => 0) (grF w.heap.size w.heap.size (w.heap.size + 2) 2 2 30 9 (fun v => #[.bool true, (.slice A6 (m1 + 1) c6), v, .slice none 0 0]) (.slice B2 m1 d2) (.slice (some ⟨b1, off1, none⟩) nk cb) (.int .i64 (i : Int)) (.pointer (some ⟨b1, off1 + i, none⟩)) (.string xv) (.slice A6 (m1 + 1) c6) m1 (strV vs2)) (GrG w w.heap.size w.heap.size (w.heap.size + 1) (w.heap.size + 2) 30 #[.bool true, .slice (some ⟨b, off, none⟩) nk ca, .slice (some ⟨b1, off1, none⟩) nk cb, .slice C nc cc] #[.bool false, .slice none 0 0, .slice none 0 0, .slice none 0 0] 9 (.slice A6 (m1 + 1) c6) (m1 + 1) (strV ks2 ++ [.string xk]) (Value.ownBlock (.slice B2 m1 d2))) (grH w.heap.size (w.heap.size + 2) 30 9 (fun v => #[.bool true, (.slice A6 (m1 + 1) c6), v, .slice none 0 0]) (.slice B2 m1 d2) m1 (strV vs2)) (by kernel_rfl) G0.out H0.out rfl (by kernel_rfl) (by kernel_rfl) (by kernel_rfl) (by kernel_rfl) (fun T hT => ?_)
              simp only [List.filterMap_cons, List.filterMap_nil, id, putsS, Act.put, List.setIfInBounds_toArray, List.set_cons_zero, List.set_cons_succ] at hT
              subst hT
              refine ⟨⟨?_, ?_, ?_, ?_, ?_, ?_, ?_, ?_, ?_, ?_, ?_, trivial⟩, ?_⟩
              · -- 0: Op.fieldAddr 25 t7 2
                intro f w1 hG hO hL hF K hK
                clear hF hO hL
                dsimp only at hK ⊢
                go_simp
                exact hK.out _ _ hG rfl (fun _ _ _ h => h) (fun _ _ h => h)
              · -- 1: Op.load 22 t64
                intro f w1 hG hO hL hF K hK
                have l10 : (grH w.heap.size (w.heap.size + 2) 30 9 (fun v => #[.bool true, (.slice A6 (m1 + 1) c6), v, .slice none 0 0]) (.slice B2 m1 d2) m1 (strV vs2)) 10 w1 := hL 10 (Nat.le_of_ble_eq_true (by kernel_rfl)) (by kernel_rfl)
                have d0 : (grF w.heap.size w.heap.size (w.heap.size + 2) 2 2 30 9 (fun v => #[.bool true, (.slice A6 (m1 + 1) c6), v, .slice none 0 0]) (.slice B2 m1 d2) (.slice (some ⟨b1, off1, none⟩) nk cb) (.int .i64 (i : Int)) (.pointer (some ⟨b1, off1 + i, none⟩)) (.string xv) (.slice A6 (m1 + 1) c6) m1 (strV vs2)) 0 (f 64) (f 0) w1 := hF 0 (by kernel_rfl)
                clear hF hO hL
                dsimp only at hK ⊢
                generalize hf64 : f 64 = v64 at *
                subst d0
                have y : w1.cell? ⟨(w.heap.size + 2), 2, none⟩ = some (.slice B2 m1 d2) := Bk.cell l10 2
                go_simp
                exact hK.out _ _ hG rfl (fun _ _ _ h => h) (fun _ _ h => h)
              · -- 2: Op.fieldAddr 25 t3 2
                intro f w1 hG hO hL hF K hK
                clear hF hO hL
                dsimp only at hK ⊢
                go_simp
                exact hK.out _ _ hG rfl (fun _ _ _ h => h) (fun _ _ h => h)
              · -- 3: Op.load 22 t66
                intro f w1 hG hO hL hF K hK
                have d2 : (grF w.heap.size w.heap.size (w.heap.size + 2) 2 2 30 9 (fun v => #[.bool true, (.slice A6 (m1 + 1) c6), v, .slice none 0 0]) (.slice B2 m1 d2) (.slice (some ⟨b1, off1, none⟩) nk cb) (.int .i64 (i : Int)) (.pointer (some ⟨b1, off1 + i, none⟩)) (.string xv) (.slice A6 (m1 + 1) c6) m1 (strV vs2)) 2 (f 66) (f 0) w1 := hF 2 (by kernel_rfl)
                clear hF hO hL
                dsimp only at hK ⊢
                generalize hf66 : f 66 = v66 at *
                subst d2
                have y := Bk.cell hG.nb 2
                go_simp
                exact hK.out _ _ hG rfl (fun _ _ _ h => h) (fun _ _ h => h)
              · -- 4: Op.move t10
                intro f w1 hG hO hL hF K hK
                clear hF hO hL
                dsimp only at hK ⊢
                go_simp
                exact hK.out _ _ hG rfl (fun _ _ _ h => h) (fun _ _ h => h)
              · -- 5: Op.indexAddr 22 t67 t68
                intro f w1 hG hO hL hF K hK
                have d3 : (grF w.heap.size w.heap.size (w.heap.size + 2) 2 2 30 9 (fun v => #[.bool true, (.slice A6 (m1 + 1) c6), v, .slice none 0 0]) (.slice B2 m1 d2) (.slice (some ⟨b1, off1, none⟩) nk cb) (.int .i64 (i : Int)) (.pointer (some ⟨b1, off1 + i, none⟩)) (.string xv) (.slice A6 (m1 + 1) c6) m1 (strV vs2)) 3 (f 67) (f 0) w1 := hF 3 (by kernel_rfl)
                have d4 : (grF w.heap.size w.heap.size (w.heap.size + 2) 2 2 30 9 (fun v => #[.bool true, (.slice A6 (m1 + 1) c6), v, .slice none 0 0]) (.slice B2 m1 d2) (.slice (some ⟨b1, off1, none⟩) nk cb) (.int .i64 (i : Int)) (.pointer (some ⟨b1, off1 + i, none⟩)) (.string xv) (.slice A6 (m1 + 1) c6) m1 (strV vs2)) 4 (f 68) (f 0) w1 := hF 4 (by kernel_rfl)
                clear hF hO hL
                dsimp only at hK ⊢
                generalize hf67 : f 67 = v67 at *
                generalize hf68 : f 68 = v68 at *
                subst d3
                subst d4
                go_simp
                exact hK.out _ _ hG rfl (fun _ _ _ h => h) (fun _ _ h => h)
              · -- 6: Op.load 9 t69
                intro f w1 hG hO hL hF K hK
                have d5 : (grF w.heap.size w.heap.size (w.heap.size + 2) 2 2 30 9 (fun v => #[.bool true, (.slice A6 (m1 + 1) c6), v, .slice none 0 0]) (.slice B2 m1 d2) (.slice (some ⟨b1, off1, none⟩) nk cb) (.int .i64 (i : Int)) (.pointer (some ⟨b1, off1 + i, none⟩)) (.string xv) (.slice A6 (m1 + 1) c6) m1 (strV vs2)) 5 (f 69) (f 0) w1 := hF 5 (by kernel_rfl)
                clear hF hO hL
                dsimp only at hK ⊢
                generalize hf69 : f 69 = v69 at *
                subst d5
                have y := HCv.out w1 hG.bel
                go_simp
                exact hK.out _ _ hG rfl (fun _ _ _ h => h) (fun _ _ h => h)
              · -- 7: Op.buildSlice 22 1 #[(0, t70)]
                intro f w1 hG hO hL hF K hK
                have d6 : (grF w.heap.size w.heap.size (w.heap.size + 2) 2 2 30 9 (fun v => #[.bool true, (.slice A6 (m1 + 1) c6), v, .slice none 0 0]) (.slice B2 m1 d2) (.slice (some ⟨b1, off1, none⟩) nk cb) (.int .i64 (i : Int)) (.pointer (some ⟨b1, off1 + i, none⟩)) (.string xv) (.slice A6 (m1 + 1) c6) m1 (strV vs2)) 6 (f 70) (f 0) w1 := hF 6 (by kernel_rfl)
                clear hF hO hL
                dsimp only at hK ⊢
                generalize hf70 : f 70 = v70 at *
                subst d6
                go_simp
                exact hK.out _ _ (hG.next ((Below.refl _ _).alloc (Nat.le_refl _) _)) ⟨w1.heap.size, rfl, hG.s4, (by have := hG.lt; omega), (fun e => absurd (hG.kl _ e).2 (Nat.lt_irrefl _)), Bk.new w1 _ _⟩ (fun j _ _ h => grF_bel ((Below.refl _ _).alloc (Nat.le_refl _) _) j _ _ h) (fun m _ h => grH_bel ((Below.refl _ _).alloc (Nat.le_refl _) _) m h)
              · -- 8: Op.call ( builtin append, args := #[t65, t71], argTypes := #[22, 22] )
                intro f w1 hG hO hL hF K hK
                have l8 : (grH w.heap.size (w.heap.size + 2) 30 9 (fun v => #[.bool true, (.slice A6 (m1 + 1) c6), v, .slice none 0 0]) (.slice B2 m1 d2) m1 (strV vs2)) 8 w1 := hL 8 (Nat.le_of_ble_eq_true (by kernel_rfl)) (by kernel_rfl)
                have l10 : (grH w.heap.size (w.heap.size + 2) 30 9 (fun v => #[.bool true, (.slice A6 (m1 + 1) c6), v, .slice none 0 0]) (.slice B2 m1 d2) m1 (strV vs2)) 10 w1 := hL 10 (Nat.le_of_ble_eq_true (by kernel_rfl)) (by kernel_rfl)
                have d1 : (grF w.heap.size w.heap.size (w.heap.size + 2) 2 2 30 9 (fun v => #[.bool true, (.slice A6 (m1 + 1) c6), v, .slice none 0 0]) (.slice B2 m1 d2) (.slice (some ⟨b1, off1, none⟩) nk cb) (.int .i64 (i : Int)) (.pointer (some ⟨b1, off1 + i, none⟩)) (.string xv) (.slice A6 (m1 + 1) c6) m1 (strV vs2)) 1 (f 65) (f 0) w1 := hF 1 (by kernel_rfl)
                have d7 : (grF w.heap.size w.heap.size (w.heap.size + 2) 2 2 30 9 (fun v => #[.bool true, (.slice A6 (m1 + 1) c6), v, .slice none 0 0]) (.slice B2 m1 d2) (.slice (some ⟨b1, off1, none⟩) nk cb) (.int .i64 (i : Int)) (.pointer (some ⟨b1, off1 + i, none⟩)) (.string xv) (.slice A6 (m1 + 1) c6) m1 (strV vs2)) 7 (f 71) (f 0) w1 := hF 7 (by kernel_rfl)
                clear hF hO hL
                dsimp only at hK ⊢
                generalize hf65 : f 65 = v65 at *
                generalize hf71 : f 71 = v71 at *
                have d1 : v65 = (.slice B2 m1 d2) := d1
                subst d1
                obtain ⟨g, rfl, h0, h1, h2, h3⟩ := d7
                have hcb : ∀ j u, [(.string xv)][j]? = some u → w1.cell? ((⟨g, 0, none⟩ : Addr).add j) = some u := fun j u hu => by
                  rw [show ((⟨g, 0, none⟩ : Addr).add j) = ⟨g, j, none⟩ by unfold Addr.add; split <;> simp_all, h3.cell j]; simpa using hu
                obtain ⟨v', w2', hrun, hown, hgr, _, hat⟩ := run_append_own_at (P := Try.prog) (w := w1) w.heap.size 27 27 9 i0 _ 1 16 Try.underlying27 hi0 hz0 hz1 hz2 rfl (by decide) (.slice B2 m1 d2) m1 (strV vs2) l8 ⟨g, 0, none⟩ 1 1 [(.string xv)] rfl hcb (by intro u hu; simp only [List.mem_singleton] at hu; subst hu; rfl) (by simp only [maxLen]; omega) (by omega) hG.s4
                have ap1 : Apart v' (.slice A6 (m1 + 1) c6) := fun b hb hb2 => by
                  rcases hat with h | h
                  · exact HAP2.out b (h ▸ hb) hb2
                  · rw [h] at hb
                    injection hb with hb
                    subst hb
                    exact absurd (own_ge hG.o hb2).2 (Nat.lt_irrefl _)
                have kn : (Value.ownBlock (.slice B2 m1 d2) = none ∨ (Value.ownBlock (.slice A6 (m1 + 1) c6)) ≠ Value.ownBlock (.slice B2 m1 d2)) := by
                  cases hK : Value.ownBlock (.slice B2 m1 d2) with
                  | none => exact Or.inl rfl
                  | some b => exact Or.inr (HAP2.out b hK)
                have nkO : Value.ownBlock (.slice B2 m1 d2) ≠ some (w.heap.size + 2) := own_tyne l8 l10 (by decide)
                have nkN : Value.ownBlock (.slice B2 m1 d2) ≠ some w.heap.size := own_tyne l8 hG.nb (by decide)
                have nkR : Value.ownBlock (.slice B2 m1 d2) ≠ some (w.heap.size + 1) := own_tyne l8 hG.res (by decide)
                refine Lib.wp_append_run w1 _ _ _ _ rfl _ _ rfl rfl _ w2' hrun (hK.out v' w2' (hG.app hgr nkN nkR kn) ⟨hown, ap1⟩ ?_ (fun m hm h => grH_app hgr nkO m hm h))
                intro j hj hdep h
                by_cases h10 : j = 10
                · subst h10
                  exact absurd hdep (by rw [show depS _ 10 8 = true by kernel_rfl]; decide)
                · exact grF_app rfl hgr j hj h10 _ _ h
              · -- 9: Op.fieldAddr 25 t7 2
                intro f w1 hG hO hL hF K hK
                clear hF hO hL
                dsimp only at hK ⊢
                go_simp
                exact hK.out _ _ hG rfl (fun _ _ _ h => h) (fun _ _ h => h)
              · -- 10: Op.store 22 t73 t72
                intro f w1 hG hO hL hF K hK
                have l10 : (grH w.heap.size (w.heap.size + 2) 30 9 (fun v => #[.bool true, (.slice A6 (m1 + 1) c6), v, .slice none 0 0]) (.slice B2 m1 d2) m1 (strV vs2)) 10 w1 := hL 10 (Nat.le_of_ble_eq_true (by kernel_rfl)) (by kernel_rfl)
                have d9 : (grF w.heap.size w.heap.size (w.heap.size + 2) 2 2 30 9 (fun v => #[.bool true, (.slice A6 (m1 + 1) c6), v, .slice none 0 0]) (.slice B2 m1 d2) (.slice (some ⟨b1, off1, none⟩) nk cb) (.int .i64 (i : Int)) (.pointer (some ⟨b1, off1 + i, none⟩)) (.string xv) (.slice A6 (m1 + 1) c6) m1 (strV vs2)) 9 (f 73) (f 0) w1 := hF 9 (by kernel_rfl)
                have d8 : (grF w.heap.size w.heap.size (w.heap.size + 2) 2 2 30 9 (fun v => #[.bool true, (.slice A6 (m1 + 1) c6), v, .slice none 0 0]) (.slice B2 m1 d2) (.slice (some ⟨b1, off1, none⟩) nk cb) (.int .i64 (i : Int)) (.pointer (some ⟨b1, off1 + i, none⟩)) (.string xv) (.slice A6 (m1 + 1) c6) m1 (strV vs2)) 8 (f 72) (f 0) w1 := hF 8 (by kernel_rfl)
                clear hF hO hL
                dsimp only at hK ⊢
                generalize hf73 : f 73 = v73 at *
                generalize hf72 : f 72 = v72 at *
                subst d9
                have hd8 : w1.ownsRow w.heap.size 9 1 v72 (m1 + 1) ((strV vs2) ++ [(.string xv)]) ∧ Apart v72 (.slice A6 (m1 + 1) c6) := d8
                clear d8
                obtain ⟨A5, c5, rfl, _, _⟩ := own_shape hd8.1
                have hl10 : Bk w1 (w.heap.size + 2) 30 #[.bool true, (.slice A6 (m1 + 1) c6), (.slice B2 m1 d2), .slice none 0 0] := l10
                have y0 : w1.cell? ⟨(w.heap.size + 2), 2, none⟩ = some (.slice B2 m1 d2) := Bk.cell hl10 2
                have f0 := Bk.frozen hl10 2
                have HD8 := Lib.hid hd8
                have HL10 := Lib.hid hl10
                have HG := Lib.hid hG
                clear hd8 hl10 l10 hG
                go_simp
                refine hK.out undef _ (HG.out.set HL10.out (by decide) 2 (.slice A5 (m1 + 1) c5)) ⟨_, HL10.out.put 2 (.slice A5 (m1 + 1) c5), own_st HD8.out.1 (Kept1.set w1 (w.heap.size + 2) 2 _) (own_tyne HD8.out.1 HL10.out (by decide)), HD8.out.2⟩ (fun j hj _ h => grF_set HL10.out (by decide) 2 _ j hj _ _ h) (fun m hm h => grH_set HL10.out (by decide) 2 _ m hm h)
              · intro f w6 hG hF
                obtain ⟨V', g1, g2', g3'⟩ : (grF w.heap.size w.heap.size (w.heap.size + 2) 2 2 30 9 (fun v => #[.bool true, (.slice A6 (m1 + 1) c6), v, .slice none 0 0]) (.slice B2 m1 d2) (.slice (some ⟨b1, off1, none⟩) nk cb) (.int .i64 (i : Int)) (.pointer (some ⟨b1, off1 + i, none⟩)) (.string xv) (.slice A6 (m1 + 1) c6) m1 (strV vs2)) 10 undef undef w6 := hF 10 (by decide)
                have HG3' := Lib.hid hG
                clear hF hG
                dsimp only
                generalize f 64 = v64
                generalize f 65 = v65
                generalize f 66 = v66
                generalize f 67 = v67
                generalize f 68 = v68
                generalize f 69 = v69
                generalize f 70 = v70
                generalize f 71 = v71
                generalize f 72 = v72
                generalize f 73 = v73
                have g4' := g2'
                obtain ⟨A7, c7, rfl, hc7, hs7⟩ := own_shape g2'
                have HS2 := Lib.hid (show SuS w #[.bool true, .slice (some ⟨b, off, none⟩) nk ca, .slice (some ⟨b1, off1, none⟩) nk cb, .slice C nc cc] (m1 + 1) (m1 + 1) (ks2 ++ [xk]) (vs2 ++ [xv]) (.slice A6 (m1 + 1) c6) (.slice A7 (m1 + 1) c7) w6 from
                  ⟨HG3'.out.bel, HG3'.out.nb, HG3'.out.res, g1, by rw [strV_snoc]; exact HG3'.out.o, by rw [strV_snoc]; exact g4', g3'.sym⟩)
                clear g1 g2' g3' g4' hs7 G0 H0
                go_wp2_with fail
                rw [E1.out]
                refine ⟨⟨i + 1, m1 + 1, .slice A6 (m1 + 1) c6, .slice A7 (m1 + 1) c7, by omega, ⟨by omega, fun h => by omega⟩, rfl, ?_⟩, HM.out⟩
                rw [PF.out.1, PF.out.2]
                exact HS2
          · have PF := Lib.hid (PE.out rfl (by omega))
            clear PH PE PN
            go_wp2_with fail
            rw [E1.out]
            refine ⟨⟨i + 1, m + 1, .slice A2 (m + 1) c2, .slice B2 (m + 1) d2, by omega, ⟨by omega, fun h => by omega⟩, rfl, ?_⟩, HM.out⟩
            rw [PF.out.1, PF.out.2]
            exact HS5
        · have hlt : i < nk := HTA.out rfl
          have PF := Lib.hid (PH.out rfl)
          clear PH PE PN
          go_wp2_with fail
          rw [E1.out]
          refine ⟨⟨i + 1, m + 1, .slice A2 (m + 1) c2, .slice B2 (m + 1) d2, by omega, ⟨by omega, fun h => by omega⟩, rfl, ?_⟩, HM.out⟩
          rw [PF.out.1, PF.out.2]
          exact HS5
      · have hne : ((i : Int) == (a : Int)) = false := by simp; omega
        by_cases hlt : i < nk
        · have hks : i < ks.length := by have := hlk.out; omega
          have hvs : i < vs.length := by have := hlv.out; omega
          obtain ⟨b, off, rfl, hbs, hc⟩ := (H.out.sk).str hks
          obtain ⟨b1, off1, rfl, hbs1, hc1⟩ := (H.out.sv).str hvs
          obtain ⟨xk, hxk⟩ : ∃ y, y = ks[i] := ⟨_, rfl⟩
          obtain ⟨xv, hxv⟩ : ∃ y, y = vs[i] := ⟨_, rfl⟩
          have i1 : (0 : Int) ≤ (i : Int) := by omega
          have PF := Lib.hid (show putT ks a ht.toNat x (i + 1) = putT ks a ht.toNat x i ++ [ks[i]] ∧ putT vs a ht.toNat y (i + 1) = putT vs a ht.toNat y i ++ [vs[i]] by
            rcases Nat.lt_or_gt_of_ne hia with h | h
            · exact ⟨putT_low hks h, putT_low hvs h⟩
            · have := Bool.toNat_le ht
              exact ⟨putT_high hks h this, putT_high hvs h this⟩)
          rw [← hxk, ← hxv] at PF
          rw [← hxk] at hc
          rw [← hxv] at hc1
          have HCk := Lib.hid (show ∀ w1, Below w.heap.size w w1 → w1.cell? ⟨b, off + i, none⟩ = some (.string xk) from fun w1 hb => (World.cell?_of_block (w := w) (a := ⟨b, off + i, none⟩) (hb.block b hbs)).trans hc)
          have HCv := Lib.hid (show ∀ w1, Below w.heap.size w w1 → w1.cell? ⟨b1, off1 + i, none⟩ = some (.string xv) from fun w1 hb => (World.cell?_of_block (w := w) (a := ⟨b1, off1 + i, none⟩) (hb.block b1 hbs1)).trans hc1)
          clear hc hc1 hbs hbs1 hks hvs hxk hxv
          have hmm : m ≤ nk + 1 := by omega
          obtain ⟨ks2, hks2⟩ : ∃ l, l = putT ks a ht.toNat x i := ⟨_, rfl⟩
          obtain ⟨vs2, hvs2⟩ : ∃ l, l = putT vs a ht.toNat y i := ⟨_, rfl⟩
          rw [← hks2, ← hvs2] at hS PF
          clear hks2 hvs2
          have hS := hS.out
          have HS := Lib.hid hS
          have HAP := Lib.hid hS.ap
          clear hS
          have G0 := Lib.hid (show GrG w w.heap.size w.heap.size (w.heap.size + 1) (w.heap.size + 2) 30 #[.bool true, .slice (some ⟨b, off, none⟩) nk ca, .slice (some ⟨b1, off1, none⟩) nk cb, .slice C nc cc] #[.bool false, .slice none 0 0, .slice none 0 0, .slice none 0 0] 9 (.slice Av m cv) m (strV vs2) (Value.ownBlock (.slice Ak m ck)) wr.drew from
            ⟨HS.out.bel.drew, HS.out.ob.lt, HS.out.nb, HS.out.res, own_belS HS.out.ov (Below.refl _ _).drew, fun b e => own_ge HS.out.ok e, by omega, by omega, by omega, HS.out.bel.size⟩)
          have H0 := Lib.hid (show ∀ m', m' < 11 → grH w.heap.size (w.heap.size + 2) 30 9 (fun v => #[.bool true, v, (.slice Av m cv), .slice none 0 0]) (.slice Ak m ck) m (strV ks2) m' wr.drew from fun m' _ => by
            unfold grH
            split
            · exact own_belS HS.out.ok (Below.refl _ _).drew
            · exact HS.out.ob
            · trivial)
          go_wp2_with fail
          refine wp_region_late [some 54, some 55, some 56, some 57, some 58, some 59, some 60, some 61, some 62, some 63, none] (fun _ => 0) (grF w.heap.size w.heap.size (w.heap.size + 2) 1 1 30 9 (fun v => #[.bool true, v, (.slice Av m cv), .slice none 0 0]) (.slice Ak m ck) (.slice (some ⟨b, off, none⟩) nk ca) (.int .i64 (i : Int)) (.pointer (some ⟨b, off + i, none⟩)) (.string xk) (.slice Av m cv) m (strV ks2)) (GrG w w.heap.size w.heap.size (w.heap.size + 1) (w.heap.size + 2) 30 #[.bool true, .slice (some ⟨b, off, none⟩) nk ca, .slice (some ⟨b1, off1, none⟩) nk cb, .slice C nc cc] #[.bool false, .slice none 0 0, .slice none 0 0, .slice none 0 0] 9 (.slice Av m cv) m (strV vs2) (Value.ownBlock (.slice Ak m ck))) (grH w.heap.size (w.heap.size + 2) 30 9 (fun v => #[.bool true, v, (.slice Av m cv), .slice none 0 0]) (.slice Ak m ck) m (strV ks2)) (by kernel_rfl) G0.out H0.out rfl (by kernel_rfl) (by kernel_rfl) (by kernel_rfl) (by kernel_rfl) (fun T hT => ?_)
          simp only [List.filterMap_cons, List.filterMap_nil, id, putsS, Act.put, List.setIfInBounds_toArray, List.set_cons_zero, List.set_cons_succ] at hT
          subst hT
          refine ⟨⟨?_, ?_, ?_, ?_, ?_, ?_, ?_, ?_, ?_, ?_, ?_, trivial⟩, ?_⟩
          · -- 0: Op.fieldAddr 25 t7 1
            intro f w1 hG hO hL hF K hK
            clear hF hO hL
            dsimp only at hK ⊢
            go_simp
            exact hK.out _ _ hG rfl (fun _ _ _ h => h) (fun _ _ h => h)
          · -- 1: Op.load 22 t54
            intro f w1 hG hO hL hF K hK
            have l10 : (grH w.heap.size (w.heap.size + 2) 30 9 (fun v => #[.bool true, v, (.slice Av m cv), .slice none 0 0]) (.slice Ak m ck) m (strV ks2)) 10 w1 := hL 10 (Nat.le_of_ble_eq_true (by kernel_rfl)) (by kernel_rfl)
            have d0 : (grF w.heap.size w.heap.size (w.heap.size + 2) 1 1 30 9 (fun v => #[.bool true, v, (.slice Av m cv), .slice none 0 0]) (.slice Ak m ck) (.slice (some ⟨b, off, none⟩) nk ca) (.int .i64 (i : Int)) (.pointer (some ⟨b, off + i, none⟩)) (.string xk) (.slice Av m cv) m (strV ks2)) 0 (f 54) (f 0) w1 := hF 0 (by kernel_rfl)
            clear hF hO hL
            dsimp only at hK ⊢
            generalize hf54 : f 54 = v54 at *
            subst d0
            have y : w1.cell? ⟨(w.heap.size + 2), 1, none⟩ = some (.slice Ak m ck) := Bk.cell l10 1
            go_simp
            exact hK.out _ _ hG rfl (fun _ _ _ h => h) (fun _ _ h => h)
          · -- 2: Op.fieldAddr 25 t3 1
            intro f w1 hG hO hL hF K hK
            clear hF hO hL
            dsimp only at hK ⊢
            go_simp
            exact hK.out _ _ hG rfl (fun _ _ _ h => h) (fun _ _ h => h)
          · -- 3: Op.load 22 t56
            intro f w1 hG hO hL hF K hK
            have d2 : (grF w.heap.size w.heap.size (w.heap.size + 2) 1 1 30 9 (fun v => #[.bool true, v, (.slice Av m cv), .slice none 0 0]) (.slice Ak m ck) (.slice (some ⟨b, off, none⟩) nk ca) (.int .i64 (i : Int)) (.pointer (some ⟨b, off + i, none⟩)) (.string xk) (.slice Av m cv) m (strV ks2)) 2 (f 56) (f 0) w1 := hF 2 (by kernel_rfl)
            clear hF hO hL
            dsimp only at hK ⊢
            generalize hf56 : f 56 = v56 at *
            subst d2
            have y := Bk.cell hG.nb 1
            go_simp
            exact hK.out _ _ hG rfl (fun _ _ _ h => h) (fun _ _ h => h)
          · -- 4: Op.move t10
            intro f w1 hG hO hL hF K hK
            clear hF hO hL
            dsimp only at hK ⊢
            go_simp
            exact hK.out _ _ hG rfl (fun _ _ _ h => h) (fun _ _ h => h)
          · -- 5: Op.indexAddr 22 t57 t58
            intro f w1 hG hO hL hF K hK
            have d3 : (grF w.heap.size w.heap.size (w.heap.size + 2) 1 1 30 9 (fun v => #[.bool true, v, (.slice Av m cv), .slice none 0 0]) (.slice Ak m ck) (.slice (some ⟨b, off, none⟩) nk ca) (.int .i64 (i : Int)) (.pointer (some ⟨b, off + i, none⟩)) (.string xk) (.slice Av m cv) m (strV ks2)) 3 (f 57) (f 0) w1 := hF 3 (by kernel_rfl)
            have d4 : (grF w.heap.size w.heap.size (w.heap.size + 2) 1 1 30 9 (fun v => #[.bool true, v, (.slice Av m cv), .slice none 0 0]) (.slice Ak m ck) (.slice (some ⟨b, off, none⟩) nk ca) (.int .i64 (i : Int)) (.pointer (some ⟨b, off + i, none⟩)) (.string xk) (.slice Av m cv) m (strV ks2)) 4 (f 58) (f 0) w1 := hF 4 (by kernel_rfl)
            clear hF hO hL
            dsimp only at hK ⊢
            generalize hf57 : f 57 = v57 at *
            generalize hf58 : f 58 = v58 at *
            subst d3
            subst d4
            go_simp
            exact hK.out _ _ hG rfl (fun _ _ _ h => h) (fun _ _ h => h)
          · -- 6: Op.load 9 t59
            intro f w1 hG hO hL hF K hK
            have d5 : (grF w.heap.size w.heap.size (w.heap.size + 2) 1 1 30 9 (fun v => #[.bool true, v, (.slice Av m cv), .slice none 0 0]) (.slice Ak m ck) (.slice (some ⟨b, off, none⟩) nk ca) (.int .i64 (i : Int)) (.pointer (some ⟨b, off + i, none⟩)) (.string xk) (.slice Av m cv) m (strV ks2)) 5 (f 59) (f 0) w1 := hF 5 (by kernel_rfl)
            clear hF hO hL
            dsimp only at hK ⊢
            generalize hf59 : f 59 = v59 at *
            subst d5
            have y := HCk.out w1 hG.bel
            go_simp
            exact hK.out _ _ hG rfl (fun _ _ _ h => h) (fun _ _ h => h)
          · -- 7: Op.buildSlice 22 1 #[(0, t60)]
            intro f w1 hG hO hL hF K hK
            have d6 : (grF w.heap.size w.heap.size (w.heap.size + 2) 1 1 30 9 (fun v => #[.bool true, v, (.slice Av m cv), .slice none 0 0]) (.slice Ak m ck) (.slice (some ⟨b, off, none⟩) nk ca) (.int .i64 (i : Int)) (.pointer (some ⟨b, off + i, none⟩)) (.string xk) (.slice Av m cv) m (strV ks2)) 6 (f 60) (f 0) w1 := hF 6 (by kernel_rfl)
            clear hF hO hL
            dsimp only at hK ⊢
            generalize hf60 : f 60 = v60 at *
            subst d6
            go_simp
            exact hK.out _ _ (hG.next ((Below.refl _ _).alloc (Nat.le_refl _) _)) ⟨w1.heap.size, rfl, hG.s4, (by have := hG.lt; omega), (fun e => absurd (hG.kl _ e).2 (Nat.lt_irrefl _)), Bk.new w1 _ _⟩ (fun j _ _ h => grF_bel ((Below.refl _ _).alloc (Nat.le_refl _) _) j _ _ h) (fun m _ h => grH_bel ((Below.refl _ _).alloc (Nat.le_refl _) _) m h)
          · -- 8: Op.call ( builtin append, args := #[t55, t61], argTypes := #[22, 22] )
            intro f w1 hG hO hL hF K hK
            have l8 : (grH w.heap.size (w.heap.size + 2) 30 9 (fun v => #[.bool true, v, (.slice Av m cv), .slice none 0 0]) (.slice Ak m ck) m (strV ks2)) 8 w1 := hL 8 (Nat.le_of_ble_eq_true (by kernel_rfl)) (by kernel_rfl)
            have l10 : (grH w.heap.size (w.heap.size + 2) 30 9 (fun v => #[.bool true, v, (.slice Av m cv), .slice none 0 0]) (.slice Ak m ck) m (strV ks2)) 10 w1 := hL 10 (Nat.le_of_ble_eq_true (by kernel_rfl)) (by kernel_rfl)
            have d1 : (grF w.heap.size w.heap.size (w.heap.size + 2) 1 1 30 9 (fun v => #[.bool true, v, (.slice Av m cv), .slice none 0 0]) (.slice Ak m ck) (.slice (some ⟨b, off, none⟩) nk ca) (.int .i64 (i : Int)) (.pointer (some ⟨b, off + i, none⟩)) (.string xk) (.slice Av m cv) m (strV ks2)) 1 (f 55) (f 0) w1 := hF 1 (by kernel_rfl)
            have d7 : (grF w.heap.size w.heap.size (w.heap.size + 2) 1 1 30 9 (fun v => #[.bool true, v, (.slice Av m cv), .slice none 0 0]) (.slice Ak m ck) (.slice (some ⟨b, off, none⟩) nk ca) (.int .i64 (i : Int)) (.pointer (some ⟨b, off + i, none⟩)) (.string xk) (.slice Av m cv) m (strV ks2)) 7 (f 61) (f 0) w1 := hF 7 (by kernel_rfl)
            clear hF hO hL
            dsimp only at hK ⊢
            generalize hf55 : f 55 = v55 at *
            generalize hf61 : f 61 = v61 at *
            have d1 : v55 = (.slice Ak m ck) := d1
            subst d1
            obtain ⟨g, rfl, h0, h1, h2, h3⟩ := d7
            have hcb : ∀ j u, [(.string xk)][j]? = some u → w1.cell? ((⟨g, 0, none⟩ : Addr).add j) = some u := fun j u hu => by
              rw [show ((⟨g, 0, none⟩ : Addr).add j) = ⟨g, j, none⟩ by unfold Addr.add; split <;> simp_all, h3.cell j]; simpa using hu
            obtain ⟨v', w2', hrun, hown, hgr, _, hat⟩ := run_append_own_at (P := Try.prog) (w := w1) w.heap.size 27 27 9 i0 _ 1 16 Try.underlying27 hi0 hz0 hz1 hz2 rfl (by decide) (.slice Ak m ck) m (strV ks2) l8 ⟨g, 0, none⟩ 1 1 [(.string xk)] rfl hcb (by intro u hu; simp only [List.mem_singleton] at hu; subst hu; rfl) (by simp only [maxLen]; omega) (by omega) hG.s4
            have ap1 : Apart v' (.slice Av m cv) := fun b hb hb2 => by
              rcases hat with h | h
              · exact HAP.out b (h ▸ hb) hb2
              · rw [h] at hb
                injection hb with hb
                subst hb
                exact absurd (own_ge hG.o hb2).2 (Nat.lt_irrefl _)
            have kn : (Value.ownBlock (.slice Ak m ck) = none ∨ (Value.ownBlock (.slice Av m cv)) ≠ Value.ownBlock (.slice Ak m ck)) := by
              cases hK : Value.ownBlock (.slice Ak m ck) with
              | none => exact Or.inl rfl
              | some b => exact Or.inr (HAP.out b hK)
            have nkO : Value.ownBlock (.slice Ak m ck) ≠ some (w.heap.size + 2) := own_tyne l8 l10 (by decide)
            have nkN : Value.ownBlock (.slice Ak m ck) ≠ some w.heap.size := own_tyne l8 hG.nb (by decide)
            have nkR : Value.ownBlock (.slice Ak m ck) ≠ some (w.heap.size + 1) := own_tyne l8 hG.res (by decide)
            refine Lib.wp_append_run w1 _ _ _ _ rfl _ _ rfl rfl _ w2' hrun (hK.out v' w2' (hG.app hgr nkN nkR kn) ⟨hown, ap1⟩ ?_ (fun m hm h => grH_app hgr nkO m hm h))
            intro j hj hdep h
            by_cases h10 : j = 10
            · subst h10
              exact absurd hdep (by rw [show depS _ 10 8 = true by kernel_rfl]; decide)
            · exact grF_app rfl hgr j hj h10 _ _ h
          · -- 9: Op.fieldAddr 25 t7 1
            intro f w1 hG hO hL hF K hK
            clear hF hO hL
            dsimp only at hK ⊢
            go_simp
            exact hK.out _ _ hG rfl (fun _ _ _ h => h) (fun _ _ h => h)
          · -- 10: Op.store 22 t63 t62
            intro f w1 hG hO hL hF K hK
            have l10 : (grH w.heap.size (w.heap.size + 2) 30 9 (fun v => #[.bool true, v, (.slice Av m cv), .slice none 0 0]) (.slice Ak m ck) m (strV ks2)) 10 w1 := hL 10 (Nat.le_of_ble_eq_true (by kernel_rfl)) (by kernel_rfl)
            have d9 : (grF w.heap.size w.heap.size (w.heap.size + 2) 1 1 30 9 (fun v => #[.bool true, v, (.slice Av m cv), .slice none 0 0]) (.slice Ak m ck) (.slice (some ⟨b, off, none⟩) nk ca) (.int .i64 (i : Int)) (.pointer (some ⟨b, off + i, none⟩)) (.string xk) (.slice Av m cv) m (strV ks2)) 9 (f 63) (f 0) w1 := hF 9 (by kernel_rfl)
            have d8 : (grF w.heap.size w.heap.size (w.heap.size + 2) 1 1 30 9 (fun v => #[.bool true, v, (.slice Av m cv), .slice none 0 0]) (.slice Ak m ck) (.slice (some ⟨b, off, none⟩) nk ca) (.int .i64 (i : Int)) (.pointer (some ⟨b, off + i, none⟩)) (.string xk) (.slice Av m cv) m (strV ks2)) 8 (f 62) (f 0) w1 := hF 8 (by kernel_rfl)
            clear hF hO hL
            dsimp only at hK ⊢
            generalize hf63 : f 63 = v63 at *
            generalize hf62 : f 62 = v62 at *
            subst d9
            have hd8 : w1.ownsRow w.heap.size 9 1 v62 (m + 1) ((strV ks2) ++ [(.string xk)]) ∧ Apart v62 (.slice Av m cv) := d8
            clear d8
            obtain ⟨A5, c5, rfl, _, _⟩ := own_shape hd8.1
            have hl10 : Bk w1 (w.heap.size + 2) 30 #[.bool true, (.slice Ak m ck), (.slice Av m cv), .slice none 0 0] := l10
            have y0 : w1.cell? ⟨(w.heap.size + 2), 1, none⟩ = some (.slice Ak m ck) := Bk.cell hl10 1
            have f0 := Bk.frozen hl10 1
            have HD8 := Lib.hid hd8
            have HL10 := Lib.hid hl10
            have HG := Lib.hid hG
            clear hd8 hl10 l10 hG
            go_simp
            refine hK.out undef _ (HG.out.set HL10.out (by decide) 1 (.slice A5 (m + 1) c5)) ⟨_, HL10.out.put 1 (.slice A5 (m + 1) c5), own_st HD8.out.1 (Kept1.set w1 (w.heap.size + 2) 1 _) (own_tyne HD8.out.1 HL10.out (by decide)), HD8.out.2⟩ (fun j hj _ h => grF_set HL10.out (by decide) 1 _ j hj _ _ h) (fun m hm h => grH_set HL10.out (by decide) 1 _ m hm h)
          · intro f w6 hG hF
            obtain ⟨V', g1, g2', g3'⟩ : (grF w.heap.size w.heap.size (w.heap.size + 2) 1 1 30 9 (fun v => #[.bool true, v, (.slice Av m cv), .slice none 0 0]) (.slice Ak m ck) (.slice (some ⟨b, off, none⟩) nk ca) (.int .i64 (i : Int)) (.pointer (some ⟨b, off + i, none⟩)) (.string xk) (.slice Av m cv) m (strV ks2)) 10 undef undef w6 := hF 10 (by decide)
            have HG1 := Lib.hid hG
            clear hF hG
            dsimp only
            generalize f 54 = v54
            generalize f 55 = v55
            generalize f 56 = v56
            generalize f 57 = v57
            generalize f 58 = v58
            generalize f 59 = v59
            generalize f 60 = v60
            generalize f 61 = v61
            generalize f 62 = v62
            generalize f 63 = v63
            have HG2 := Lib.hid g2'
            obtain ⟨A6, c6, rfl, hc6, hs6⟩ := own_shape g2'
            have HG3 := Lib.hid g3'
            have HG1' := Lib.hid g1
            clear g1 g2' g3' hs6 G0 H0
            have G0 := Lib.hid (show GrG w w.heap.size w.heap.size (w.heap.size + 1) (w.heap.size + 2) 30 #[.bool true, .slice (some ⟨b, off, none⟩) nk ca, .slice (some ⟨b1, off1, none⟩) nk cb, .slice C nc cc] #[.bool false, .slice none 0 0, .slice none 0 0, .slice none 0 0] 9 (.slice A6 (m + 1) c6) (m + 1) (strV ks2 ++ [.string xk]) (Value.ownBlock (.slice Av m cv)) w6.drew from
              ⟨HG1.out.bel.drew, HG1.out.lt, HG1.out.nb, HG1.out.res, own_belS HG2.out (Below.refl _ _).drew, fun b e => own_ge HG1.out.o e, by omega, by omega, by omega, HG1.out.s4⟩)
            have H0 := Lib.hid (show ∀ m', m' < 11 → grH w.heap.size (w.heap.size + 2) 30 9 (fun v => #[.bool true, (.slice A6 (m + 1) c6), v, .slice none 0 0]) (.slice Av m cv) m (strV vs2) m' w6.drew from fun m' _ => by
              unfold grH
              split
              · exact own_belS HG1.out.o (Below.refl _ _).drew
              · exact HG1'.out
              · trivial)
            have HAP2 := Lib.hid (show Apart (.slice Av m cv) (.slice A6 (m + 1) c6) from HG3.out.sym)
            go_wp2_with fail
            refine wp_region_late [some 64, some 65, some 66, some 67, some 68, some 69, some 70, some 71, some 72, some 73, none] (fun _ => 0) (grF w.heap.size w.heap.size (w.heap.size + 2) 2 2 30 9 (fun v => #[.bool true, (.slice A6 (m + 1) c6), v, .slice none 0 0]) (.slice Av m cv) (.slice (some ⟨b1, off1, none⟩) nk cb) (.int .i64 (i : Int)) (.pointer (some ⟨b1, off1 + i, none⟩)) (.string xv) (.slice A6 (m + 1) c6) m (strV vs2)) (GrG w w.heap.size w.heap.size (w.heap.size + 1) (w.heap.size + 2) 30 #[.bool true, .slice (some ⟨b, off, none⟩) nk ca, .slice (some ⟨b1, off1, none⟩) nk cb, .slice C nc cc] #[.bool false, .slice none 0 0, .slice none 0 0, .slice none 0 0] 9 (.slice A6 (m + 1) c6) (m + 1) (strV ks2 ++ [.string xk]) (Value.ownBlock (.slice Av m cv))) (grH w.heap.size (w.heap.size + 2) 30 9 (fun v => #[.bool true, (.slice A6 (m + 1) c6), v, .slice none 0 0]) (.slice Av m cv) m (strV vs2)) (by kernel_rfl) G0.out H0.out rfl (by kernel_rfl) (by kernel_rfl) (by kernel_rfl) (by kernel_rfl) (fun T hT => ?_)
            simp only [List.filterMap_cons, List.filterMap_nil, id, putsS, Act.put, List.setIfInBounds_toArray, List.set_cons_zero, List.set_cons_succ] at hT
            subst hT
            refine ⟨⟨?_, ?_, ?_, ?_, ?_, ?_, ?_, ?_, ?_, ?_, ?_, trivial⟩, ?_⟩
            · -- 0: Op.fieldAddr 25 t7 2
              intro f w1 hG hO hL hF K hK
              clear hF hO hL
              dsimp only at hK ⊢
              go_simp
              exact hK.out _ _ hG rfl (fun _ _ _ h => h) (fun _ _ h => h)
            · -- 1: Op.load 22 t64
              intro f w1 hG hO hL hF K hK
              have l10 : (grH w.heap.size (w.heap.size + 2) 30 9 (fun v => #[.bool true, (.slice A6 (m + 1) c6), v, .slice none 0 0]) (.slice Av m cv) m (strV vs2)) 10 w1 := hL 10 (Nat.le_of_ble_eq_true (by kernel_rfl)) (by kernel_rfl)
              have d0 : (grF w.heap.size w.heap.size (w.heap.size + 2) 2 2 30 9 (fun v => #[.bool true, (.slice A6 (m + 1) c6), v, .slice none 0 0]) (.slice Av m cv) (.slice (some ⟨b1, off1, none⟩) nk cb) (.int .i64 (i : Int)) (.pointer (some ⟨b1, off1 + i, none⟩)) (.string xv) (.slice A6 (m + 1) c6) m (strV vs2)) 0 (f 64) (f 0) w1 := hF 0 (by kernel_rfl)
              clear hF hO hL
              dsimp only at hK ⊢
              generalize hf64 : f 64 = v64 at *
              subst d0
              have y : w1.cell? ⟨(w.heap.size + 2), 2, none⟩ = some (.slice Av m cv) := Bk.cell l10 2
              go_simp
              exact hK.out _ _ hG rfl (fun _ _ _ h => h) (fun _ _ h => h)
            · -- 2: Op.fieldAddr 25 t3 2
              intro f w1 hG hO hL hF K hK
              clear hF hO hL
              dsimp only at hK ⊢
              go_simp
              exact hK.out _ _ hG rfl (fun _ _ _ h => h) (fun _ _ h => h)
            · -- 3: Op.load 22 t66
              intro f w1 hG hO hL hF K hK
              have d2 : (grF w.heap.size w.heap.size (w.heap.size + 2) 2 2 30 9 (fun v => #[.bool true, (.slice A6 (m + 1) c6), v, .slice none 0 0]) (.slice Av m cv) (.slice (some ⟨b1, off1, none⟩) nk cb) (.int .i64 (i : Int)) (.pointer (some ⟨b1, off1 + i, none⟩)) (.string xv) (.slice A6 (m + 1) c6) m (strV vs2)) 2 (f 66) (f 0) w1 := hF 2 (by kernel_rfl)
              clear hF hO hL
              dsimp only at hK ⊢
              generalize hf66 : f 66 = v66 at *
              subst d2
              have y := Bk.cell hG.nb 2
              go_simp
              exact hK.out _ _ hG rfl (fun _ _ _ h => h) (fun _ _ h => h)
            · -- 4: Op.move t10
              intro f w1 hG hO hL hF K hK
              clear hF hO hL
              dsimp only at hK ⊢
              go_simp
              exact hK.out _ _ hG rfl (fun _ _ _ h => h) (fun _ _ h => h)
            · -- 5: Op.indexAddr 22 t67 t68
              intro f w1 hG hO hL hF K hK
              have d3 : (grF w.heap.size w.heap.size (w.heap.size + 2) 2 2 30 9 (fun v => #[.bool true, (.slice A6 (m + 1) c6), v, .slice none 0 0]) (.slice Av m cv) (.slice (some ⟨b1, off1, none⟩) nk cb) (.int .i64 (i : Int)) (.pointer (some ⟨b1, off1 + i, none⟩)) (.string xv) (.slice A6 (m + 1) c6) m (strV vs2)) 3 (f 67) (f 0) w1 := hF 3 (by kernel_rfl)
              have d4 : (grF w.heap.size w.heap.size (w.heap.size + 2) 2 2 30 9 (fun v => #[.bool true, (.slice A6 (m + 1) c6), v, .slice none 0 0]) (.slice Av m cv) (.slice (some ⟨b1, off1, none⟩) nk cb) (.int .i64 (i : Int)) (.pointer (some ⟨b1, off1 + i, none⟩)) (.string xv) (.slice A6 (m + 1) c6) m (strV vs2)) 4 (f 68) (f 0) w1 := hF 4 (by kernel_rfl)
              clear hF hO hL
              dsimp only at hK ⊢
              generalize hf67 : f 67 = v67 at *
              generalize hf68 : f 68 = v68 at *
              subst d3
              subst d4
              go_simp
              exact hK.out _ _ hG rfl (fun _ _ _ h => h) (fun _ _ h => h)
            · -- 6: Op.load 9 t69
              intro f w1 hG hO hL hF K hK
              have d5 : (grF w.heap.size w.heap.size (w.heap.size + 2) 2 2 30 9 (fun v => #[.bool true, (.slice A6 (m + 1) c6), v, .slice none 0 0]) (.slice Av m cv) (.slice (some ⟨b1, off1, none⟩) nk cb) (.int .i64 (i : Int)) (.pointer (some ⟨b1, off1 + i, none⟩)) (.string xv) (.slice A6 (m + 1) c6) m (strV vs2)) 5 (f 69) (f 0) w1 := hF 5 (by kernel_rfl)
              clear hF hO hL
              dsimp only at hK ⊢
              generalize hf69 : f 69 = v69 at *
              subst d5
              have y := HCv.out w1 hG.bel
              go_simp
              exact hK.out _ _ hG rfl (fun _ _ _ h => h) (fun _ _ h => h)
            · -- 7: Op.buildSlice 22 1 #[(0, t70)]
              intro f w1 hG hO hL hF K hK
              have d6 : (grF w.heap.size w.heap.size (w.heap.size + 2) 2 2 30 9 (fun v => #[.bool true, (.slice A6 (m + 1) c6), v, .slice none 0 0]) (.slice Av m cv) (.slice (some ⟨b1, off1, none⟩) nk cb) (.int .i64 (i : Int)) (.pointer (some ⟨b1, off1 + i, none⟩)) (.string xv) (.slice A6 (m + 1) c6) m (strV vs2)) 6 (f 70) (f 0) w1 := hF 6 (by kernel_rfl)
              clear hF hO hL
              dsimp only at hK ⊢
              generalize hf70 : f 70 = v70 at *
              subst d6
              go_simp
              exact hK.out _ _ (hG.next ((Below.refl _ _).alloc (Nat.le_refl _) _)) ⟨w1.heap.size, rfl, hG.s4, (by have := hG.lt; omega), (fun e => absurd (hG.kl _ e).2 (Nat.lt_irrefl _)), Bk.new w1 _ _⟩ (fun j _ _ h => grF_bel ((Below.refl _ _).alloc (Nat.le_refl _) _) j _ _ h) (fun m _ h => grH_bel ((Below.refl _ _).alloc (Nat.le_refl _) _) m h)
            · -- 8: Op.call ( builtin append, args := #[t65, t71], argTypes := #[22, 22] )
              intro f w1 hG hO hL hF K hK
              have l8 : (grH w.heap.size (w.heap.size + 2) 30 9 (fun v => #[.bool true, (.slice A6 (m + 1) c6), v, .slice none 0 0]) (.slice Av m cv) m (strV vs2)) 8 w1 := hL 8 (Nat.le_of_ble_eq_true (by kernel_rfl)) (by kernel_rfl)
              have l10 : (grH w.heap.size (w.heap.size + 2) 30 9 (fun v => #[.bool true, (.slice A6 (m + 1) c6), v, .slice none 0 0]) (.slice Av m cv) m (strV vs2)) 10 w1 := hL 10 (Nat.le_of_ble_eq_true (by kernel_rfl)) (by kernel_rfl)
              have d1 : (grF w.heap.size w.heap.size (w.heap.size + 2) 2 2 30 9 (fun v => #[.bool true, (.slice A6 (m + 1) c6), v, .slice none 0 0]) (.slice Av m cv) (.slice (some ⟨b1, off1, none⟩) nk cb) (.int .i64 (i : Int)) (.pointer (some ⟨b1, off1 + i, none⟩)) (.string xv) (.slice A6 (m + 1) c6) m (strV vs2)) 1 (f 65) (f 0) w1 := hF 1 (by kernel_rfl)
              have d7 : (grF w.heap.size w.heap.size (w.heap.size + 2) 2 2 30 9 (fun v => #[.bool true, (.slice A6 (m + 1) c6), v, .slice none 0 0]) (.slice Av m cv) (.slice (some ⟨b1, off1, none⟩) nk cb) (.int .i64 (i : Int)) (.pointer (some ⟨b1, off1 + i, none⟩)) (.string xv) (.slice A6 (m + 1) c6) m (strV vs2)) 7 (f 71) (f 0) w1 := hF 7 (by kernel_rfl)
              clear hF hO hL
              dsimp only at hK ⊢
              generalize hf65 : f 65 = v65 at *
              generalize hf71 : f 71 = v71 at *
              have d1 : v65 = (.slice Av m cv) := d1
              subst d1
              obtain ⟨g, rfl, h0, h1, h2, h3⟩ := d7
              have hcb : ∀ j u, [(.string xv)][j]? = some u → w1.cell? ((⟨g, 0, none⟩ : Addr).add j) = some u := fun j u hu => by
                rw [show ((⟨g, 0, none⟩ : Addr).add j) = ⟨g, j, none⟩ by unfold Addr.add; split <;> simp_all, h3.cell j]; simpa using hu
              obtain ⟨v', w2', hrun, hown, hgr, _, hat⟩ := run_append_own_at (P := Try.prog) (w := w1) w.heap.size 27 27 9 i0 _ 1 16 Try.underlying27 hi0 hz0 hz1 hz2 rfl (by decide) (.slice Av m cv) m (strV vs2) l8 ⟨g, 0, none⟩ 1 1 [(.string xv)] rfl hcb (by intro u hu; simp only [List.mem_singleton] at hu; subst hu; rfl) (by simp only [maxLen]; omega) (by omega) hG.s4
              have ap1 : Apart v' (.slice A6 (m + 1) c6) := fun b hb hb2 => by
                rcases hat with h | h
                · exact HAP2.out b (h ▸ hb) hb2
                · rw [h] at hb
                  injection hb with hb
                  subst hb
                  exact absurd (own_ge hG.o hb2).2 (Nat.lt_irrefl _)
              have kn : (Value.ownBlock (.slice Av m cv) = none ∨ (Value.ownBlock (.slice A6 (m + 1) c6)) ≠ Value.ownBlock (.slice Av m cv)) := by
                cases hK : Value.ownBlock (.slice Av m cv) with
                | none => exact Or.inl rfl
                | some b => exact Or.inr (HAP2.out b hK)
              have nkO : Value.ownBlock (.slice Av m cv) ≠ some (w.heap.size + 2) := own_tyne l8 l10 (by decide)
              have nkN : Value.ownBlock (.slice Av m cv) ≠ some w.heap.size := own_tyne l8 hG.nb (by decide)
              have nkR : Value.ownBlock (.slice Av m cv) ≠ some (w.heap.size + 1) := own_tyne l8 hG.res (by decide)
              refine Lib.wp_append_run w1 _ _ _ _ rfl _ _ rfl rfl _ w2' hrun (hK.out v' w2' (hG.app hgr nkN nkR kn) ⟨hown, ap1⟩ ?_ (fun m hm h => grH_app hgr nkO m hm h))
              intro j hj hdep h
              by_cases h10 : j = 10
              · subst h10
                exact absurd hdep (by rw [show depS _ 10 8 = true by kernel_rfl]; decide)
              · exact grF_app rfl hgr j hj h10 _ _ h
            · -- 9: Op.fieldAddr 25 t7 2
              intro f w1 hG hO hL hF K hK
              clear hF hO hL
              dsimp only at hK ⊢
              go_simp
              exact hK.out _ _ hG rfl (fun _ _ _ h => h) (fun _ _ h => h)
            · -- 10: Op.store 22 t73 t72
              intro f w1 hG hO hL hF K hK
              have l10 : (grH w.heap.size (w.heap.size + 2) 30 9 (fun v => #[.bool true, (.slice A6 (m + 1) c6), v, .slice none 0 0]) (.slice Av m cv) m (strV vs2)) 10 w1 := hL 10 (Nat.le_of_ble_eq_true (by kernel_rfl)) (by kernel_rfl)
              have d9 : (grF w.heap.size w.heap.size (w.heap.size + 2) 2 2 30 9 (fun v => #[.bool true, (.slice A6 (m + 1) c6), v, .slice none 0 0]) (.slice Av m cv) (.slice (some ⟨b1, off1, none⟩) nk cb) (.int .i64 (i : Int)) (.pointer (some ⟨b1, off1 + i, none⟩)) (.string xv) (.slice A6 (m + 1) c6) m (strV vs2)) 9 (f 73) (f 0) w1 := hF 9 (by kernel_rfl)
              have d8 : (grF w.heap.size w.heap.size (w.heap.size + 2) 2 2 30 9 (fun v => #[.bool true, (.slice A6 (m + 1) c6), v, .slice none 0 0]) (.slice Av m cv) (.slice (some ⟨b1, off1, none⟩) nk cb) (.int .i64 (i : Int)) (.pointer (some ⟨b1, off1 + i, none⟩)) (.string xv) (.slice A6 (m + 1) c6) m (strV vs2)) 8 (f 72) (f 0) w1 := hF 8 (by kernel_rfl)
              clear hF hO hL
              dsimp only at hK ⊢
              generalize hf73 : f 73 = v73 at *
              generalize hf72 : f 72 = v72 at *
              subst d9
              have hd8 : w1.ownsRow w.heap.size 9 1 v72 (m + 1) ((strV vs2) ++ [(.string xv)]) ∧ Apart v72 (.slice A6 (m + 1) c6) := d8
              clear d8
              obtain ⟨A5, c5, rfl, _, _⟩ := own_shape hd8.1
              have hl10 : Bk w1 (w.heap.size + 2) 30 #[.bool true, (.slice A6 (m + 1) c6), (.slice Av m cv), .slice none 0 0] := l10
              have y0 : w1.cell? ⟨(w.heap.size + 2), 2, none⟩ = some (.slice Av m cv) := Bk.cell hl10 2
              have f0 := Bk.frozen hl10 2
              have HD8 := Lib.hid hd8
              have HL10 := Lib.hid hl10
              have HG := Lib.hid hG
              clear hd8 hl10 l10 hG
              go_simp
              refine hK.out undef _ (HG.out.set HL10.out (by decide) 2 (.slice A5 (m + 1) c5)) ⟨_, HL10.out.put 2 (.slice A5 (m + 1) c5), own_st HD8.out.1 (Kept1.set w1 (w.heap.size + 2) 2 _) (own_tyne HD8.out.1 HL10.out (by decide)), HD8.out.2⟩ (fun j hj _ h => grF_set HL10.out (by decide) 2 _ j hj _ _ h) (fun m hm h => grH_set HL10.out (by decide) 2 _ m hm h)
            · intro f w6 hG hF
              obtain ⟨V', g1, g2', g3'⟩ : (grF w.heap.size w.heap.size (w.heap.size + 2) 2 2 30 9 (fun v => #[.bool true, (.slice A6 (m + 1) c6), v, .slice none 0 0]) (.slice Av m cv) (.slice (some ⟨b1, off1, none⟩) nk cb) (.int .i64 (i : Int)) (.pointer (some ⟨b1, off1 + i, none⟩)) (.string xv) (.slice A6 (m + 1) c6) m (strV vs2)) 10 undef undef w6 := hF 10 (by decide)
              have HG3' := Lib.hid hG
              clear hF hG
              dsimp only
              generalize f 64 = v64
              generalize f 65 = v65
              generalize f 66 = v66
              generalize f 67 = v67
              generalize f 68 = v68
              generalize f 69 = v69
              generalize f 70 = v70
              generalize f 71 = v71
              generalize f 72 = v72
              generalize f 73 = v73
              have g4' := g2'
              obtain ⟨A7, c7, rfl, hc7, hs7⟩ := own_shape g2'
              have HS2 := Lib.hid (show SuS w #[.bool true, .slice (some ⟨b, off, none⟩) nk ca, .slice (some ⟨b1, off1, none⟩) nk cb, .slice C nc cc] (m + 1) (m + 1) (ks2 ++ [xk]) (vs2 ++ [xv]) (.slice A6 (m + 1) c6) (.slice A7 (m + 1) c7) w6 from
                ⟨HG3'.out.bel, HG3'.out.nb, HG3'.out.res, g1, by rw [strV_snoc]; exact HG3'.out.o, by rw [strV_snoc]; exact g4', g3'.sym⟩)
              clear g1 g2' g3' g4' hs7 G0 H0
              go_wp2_with fail
              rw [E1.out]
              refine ⟨⟨i + 1, m + 1, .slice A6 (m + 1) c6, .slice A7 (m + 1) c7, by omega, ⟨by omega, fun h => by omega⟩, rfl, ?_⟩, HM.out⟩
              rw [PF.out.1, PF.out.2]
              exact HS2
        · have PF := Lib.hid (show putT ks a ht.toNat x (i + 1) = putT ks a ht.toNat x i ∧ putT vs a ht.toNat y (i + 1) = putT vs a ht.toNat y i by
            have l1 := hlk.out
            have l2 := hlv.out
            have e1 : ks.take (i + 1) = ks.take i := by rw [List.take_of_length_le (show ks.length ≤ i + 1 by omega), List.take_of_length_le (show ks.length ≤ i by omega)]
            have e2 : vs.take (i + 1) = vs.take i := by rw [List.take_of_length_le (show vs.length ≤ i + 1 by omega), List.take_of_length_le (show vs.length ≤ i by omega)]
            unfold putT
            rw [if_neg (show ¬ i + 1 ≤ a by omega), if_neg (show ¬ i ≤ a by omega), if_neg (show ¬ i + 1 ≤ a by omega), if_neg (show ¬ i ≤ a by omega), e1, e2]
            exact ⟨rfl, rfl⟩)
          go_wp2_with fail
          rw [E1.out]
          refine ⟨⟨i + 1, m, .slice Ak m ck, .slice Av m cv, by omega, ⟨by omega, fun h => by omega⟩, rfl, ?_⟩, HM.out⟩
          rw [PF.out.1, PF.out.2]
          exact hS
    · have hii : i = nk + 1 := by omega
      have HF := Lib.hid hS.out
      have h2 : putT ks a ht.toNat x i = setK ks x := by rw [HT.out.1, hii, hlk.out]; exact putT_all (by rw [← hlk.out]; exact ha0)
      have h3 : putT vs a ht.toNat y i = setV ks vs x y := by rw [HT.out.2, hii, hlv.out]; exact putT_all (by rw [← hlv.out]; exact ha0)
      rw [h2, h3] at HF
      have y1 := HF.out.nb.cell 1
      clear h2 h3 hS M
      have z0 := HF.out.ob.cell 0
      have z1 := HF.out.ob.cell 1
      have z2 := HF.out.ob.cell 2
      have z3 := HF.out.ob.cell 3
      have q0 := HF.out.res.cell 0
      have q1 := HF.out.res.cell 1
      have q2 := HF.out.res.cell 2
      have q3 := HF.out.res.cell 3
      have g0 := HF.out.res.frozen 0
      have g1 := HF.out.res.frozen 1
      have g2 := HF.out.res.frozen 2
      have g3 := HF.out.res.frozen 3
      have HB := Lib.hid ((((HF.out.bel.setCell (p := ⟨w.heap.size + 1, 0, none⟩) (show w.heap.size ≤ w.heap.size + 1 by omega) (.bool true)).setCell (p := ⟨w.heap.size + 1, 1, none⟩) (show w.heap.size ≤ w.heap.size + 1 by omega) (.slice Ak m ck)).setCell (p := ⟨w.heap.size + 1, 2, none⟩) (show w.heap.size ≤ w.heap.size + 1 by omega) (.slice Av m cv)).setCell (p := ⟨w.heap.size + 1, 3, none⟩) (show w.heap.size ≤ w.heap.size + 1 by omega) (.slice none 0 0))
      have hkk := (((Kept1.set wr (w.heap.size + 1) 0 (.bool true)).trans (Kept1.set _ (w.heap.size + 1) 1 (.slice Ak m ck))).trans (Kept1.set _ (w.heap.size + 1) 2 (.slice Av m cv))).trans (Kept1.set _ (w.heap.size + 1) 3 (.slice none 0 0))
      have HR1 := Lib.hid (own_apart HF.out.ok HF.out.res (by decide) hkk)
      have HR2 := Lib.hid (own_apart HF.out.ov HF.out.res (by decide) hkk)
      clear hkk
      go_wp2_with fail
      exact bodyPost_ret (v := .agg #[.bool true, .slice Ak m ck, .slice Av m cv, .slice none 0 0]) (by simp [results, Try.results5, go_sem, q0, q1, q2, q3]) rfl ⟨⟨_, _, _, rfl, HR1.out, HR2.out⟩, HB.out⟩
end Go.Proofs.Ytopkkolcimmedaa
