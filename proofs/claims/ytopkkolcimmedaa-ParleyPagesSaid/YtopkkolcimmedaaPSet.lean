/- What a call makes of a leaf: a pair put, a pair taken away. Condition: the leaf is in form and its rows lie in memory. -/
import Derived.Test.YtopkkolcimmedaaPIns2
import Derived.Test.YtopkkolcimmedaaPGr
import Derived.Test.YtopkkolcimmedaaPFA
import Derived.Test.YtopkkolcimmedaaPFind
import Derived.Test.YtopkkolcimmedaaPPart0
import Derived.Test.YtopkkolcimmedaaInForm
import Derived.Test.YtopkkolcimmedaaNdA
import Derived.LoopTactic
import Derived.Deep.LoopGhost
import Derived.WalkLawsBesides
import Derived.BigQuiet
import Derived.Deep.QuietTactic
import Derived.Deep.CutBlock
import Derived.Deep.DeepCutAuto
namespace Go.Proofs.Ytopkkolcimmedaa
open Go.RowKit

theorem own_set0 {w : World} {base g n c i : Nat} {e : TypeId} {xs : List Value} {u : Value} (h : w.ownsRow base e 1 (.slice (some ⟨g, 0, none⟩) n c) n xs) (_hi : i < n) : (w.setCell ⟨g, i, none⟩ u).ownsRow base e 1 (.slice (some ⟨g, 0, none⟩) n c) n (xs.set i u) := by
  obtain ⟨h1, h2⟩ := h
  refine ⟨by rw [List.length_set]; exact h1, ?_⟩
  rcases h2 with ⟨h3, _⟩ | ⟨g', cap, cur, h3, hb, hc, hnc, hm, hs, ht⟩
  · cases h3
  · simp only [Value.slice.injEq, Option.some.injEq, Addr.mk.injEq, and_true, true_and] at h3
    obtain ⟨rfl, rfl⟩ := h3
    have hbk : Bk w g e cur := hc
    refine Or.inr ⟨g, c, cur.setIfInBounds i u, rfl, hb, hbk.put i u, hnc, hm, by simpa using hs, ?_⟩
    rw [Array.toList_setIfInBounds, List.take_set, ht]
/-- Where Set or Unset stands: the copy s lies in box gO. -/
structure SuG (w : World) (N : Array Value) (gO m m2 : Nat) (ks vs : List ByteArray) (K V : Value) (wr : World) : Prop where
  bel : Below w.heap.size w wr
  nb : Bk wr w.heap.size 30 N
  res : Bk wr (w.heap.size + 1) 30 #[.bool false, .slice none 0 0, .slice none 0 0, .slice none 0 0]
  ob : Bk wr gO 30 #[.bool true, K, V, .slice none 0 0]
  ok : wr.ownsRow w.heap.size 9 1 K m (strV ks)
  ov : wr.ownsRow w.heap.size 9 1 V m2 (strV vs)
  ap : Apart K V
  gt : w.heap.size + 2 ≤ gO
theorem SuG.next {w : World} {N : Array Value} {gO m m2 : Nat} {ks vs : List ByteArray} {K V : Value} {wr w' : World} (h : SuG w N gO m m2 ks vs K V wr) (hb : Below wr.heap.size wr w') : SuG w N gO m m2 ks vs K V w' :=
  ⟨h.bel.trans (hb.mono h.bel.size), h.nb.bel hb, h.res.bel hb, h.ob.bel hb, own_belS h.ok hb, own_belS h.ov hb, h.ap, h.gt⟩
theorem KeptO.bk {v : Value} {w w' : World} {g : Nat} {t : TypeId} {cs : Array Value} (k : KeptO v w w') (h : Bk w g t cs) (hne : v.ownBlock ≠ some g) : Bk w' g t cs := (k.block g h.lt hne).trans h
theorem KeptO.own {v u : Value} {w w' : World} {B n : Nat} {e : TypeId} {xs : List Value} (k : KeptO v w w') (h : w.ownsRow B e 1 u n xs) (ap : Apart v u) : w'.ownsRow B e 1 u n xs := by
  refine ⟨h.1, h.2.imp id ?_⟩
  rintro ⟨g', cap, cur, rfl, hb', hc, r⟩
  have hl : g' < w.heap.size := by
    rcases Nat.lt_or_ge g' w.heap.size with h | h
    · exact h
    · rw [Array.getElem?_eq_none h] at hc; cases hc
  exact ⟨g', cap, cur, rfl, hb', (k.block g' hl (fun e => ap g' e rfl)).trans hc, r⟩
/-- The keys' row turned by a call, and stored. -/
theorem SuG.key {w : World} {N : Array Value} {gO m m2 : Nat} {ks vs : List ByteArray} {K V : Value} {wr w2 : World} (h : SuG w N gO m m2 ks vs K V wr) {K2 : Value} {m3 : Nat} {ks3 : List ByteArray} (o2 : w2.ownsRow w.heap.size 9 1 K2 m3 (strV ks3)) (hk : KeptO K wr w2) (hb : Below w.heap.size wr w2) (hat : K2.ownBlock = K.ownBlock ∨ K2.ownBlock = some wr.heap.size) :
    Bk w2 gO 30 #[.bool true, K, V, .slice none 0 0] ∧ SuG w N gO m3 m2 ks3 vs K2 V (w2.setCell ⟨gO, 1, none⟩ K2) := by
  have k := Kept1.set w2 gO 1 K2
  have hg := h.gt
  have h3 := hk.bk h.ob (own_tyne h.ok h.ob (by decide))
  exact ⟨h3, ⟨(h.bel.trans hb).setCell (p := ⟨gO, 1, none⟩) (show w.heap.size ≤ gO by omega) _, bk_kept (hk.bk h.nb (own_tyne h.ok h.nb (by decide))) (by omega) k, bk_kept (hk.bk h.res (own_tyne h.ok h.res (by decide))) (by omega) k, h3.put 1 K2, own_st o2 k (own_tyne o2 h3 (by decide)), own_st (hk.own h.ov h.ap) k (own_tyne (hk.own h.ov h.ap) h3 (by decide)), apart_new h.ov h.ap hat, h.gt⟩⟩
theorem SuG.val {w : World} {N : Array Value} {gO m m2 : Nat} {ks vs : List ByteArray} {K V : Value} {wr w2 : World} (h : SuG w N gO m m2 ks vs K V wr) {V2 : Value} {m3 : Nat} {vs3 : List ByteArray} (o2 : w2.ownsRow w.heap.size 9 1 V2 m3 (strV vs3)) (hk : KeptO V wr w2) (hb : Below w.heap.size wr w2) (hat : V2.ownBlock = V.ownBlock ∨ V2.ownBlock = some wr.heap.size) :
    Bk w2 gO 30 #[.bool true, K, V, .slice none 0 0] ∧ SuG w N gO m m3 ks vs3 K V2 (w2.setCell ⟨gO, 2, none⟩ V2) := by
  have k := Kept1.set w2 gO 2 V2
  have hg := h.gt
  have h3 := hk.bk h.ob (own_tyne h.ov h.ob (by decide))
  exact ⟨h3, ⟨(h.bel.trans hb).setCell (p := ⟨gO, 2, none⟩) (show w.heap.size ≤ gO by omega) _, bk_kept (hk.bk h.nb (own_tyne h.ov h.nb (by decide))) (by omega) k, bk_kept (hk.bk h.res (own_tyne h.ov h.res (by decide))) (by omega) k, h3.put 2 V2, own_st (hk.own h.ok h.ap.sym) k (own_tyne (hk.own h.ok h.ap.sym) h3 (by decide)), own_st o2 k (own_tyne o2 h3 (by decide)), (apart_new h.ok h.ap.sym hat).sym, h.gt⟩⟩
/-- A value of the row overwritten. -/
theorem SuG.put {w : World} {N : Array Value} {gO m n g c i : Nat} {ks vs : List ByteArray} {K : Value} {wr : World} (h : SuG w N gO m n ks vs K (.slice (some ⟨g, 0, none⟩) n c) wr) (hi : i < n) (y : ByteArray) :
    SuG w N gO m n ks (vs.set i y) K (.slice (some ⟨g, 0, none⟩) n c) (wr.setCell ⟨g, i, none⟩ (.string y)) := by
  have k := Kept1.set wr g i (.string y)
  have hB : w.heap.size ≤ g := (own_ge h.ov rfl).1
  have n1 : ∀ {b cs}, Bk wr b 30 cs → b ≠ g := fun hb e => own_tyne h.ov hb (by decide) (by rw [e]; rfl)
  refine ⟨h.bel.setCell (p := ⟨g, i, none⟩) hB _, bk_kept h.nb (n1 h.nb) k, bk_kept h.res (n1 h.res) k, bk_kept h.ob (n1 h.ob) k, own_st h.ok k (h.ap.sym g rfl), ?_, h.ap, h.gt⟩
  have := own_set0 (u := .string y) h.ov hi
  rwa [show (strV vs).set i (.string y) = strV (vs.set i y) by simp [strV, List.map_set]] at this
theorem keptO_alloc (v : Value) (w : World) (o : Obj) : KeptO v w (w.alloc o) := KeptO.alloc v w o
set_option maxRecDepth 100000 in
set_option maxHeartbeats 4000000 in
/-- The program's Set. -/
theorem pset_any (ks vs : List ByteArray) (cs : List Int) (A B C : Option Addr) (nk ca cb nc cc : Nat) (x y : ByteArray) (w : World) (h : Nd w ⟨true, ks, vs, cs⟩ A B C nk ca nk cb nc cc) (hf : formB ⟨true, ks, vs, cs⟩ = true) (hA : A = none → ca = 0) (hB : B = none → cb = 0) (hbk : nk ≤ 8796093021952) :
    Calls Try.prog 6 #[.agg #[.bool true, .slice A nk ca, .slice B nk cb, .slice C nc cc], .string x, .string y] w fun e w' => (∃ K V m, e = .returned (.agg #[.bool true, K, V, .slice none 0 0]) ∧ w'.ownsRow w.heap.size 9 1 K m (strV (setK ks x)) ∧ w'.ownsRow w.heap.size 9 1 V m (strV (setV ks vs x y))) ∧ Below w.heap.size w w' := by
  have H := Lib.hid h
  have HK := Lib.hid (form_keys hf)
  have EK := Lib.hid (show nk = ks.length from h.ek)
  have EV := Lib.hid (show nk = vs.length from h.ev)
  obtain ⟨wa, hwa⟩ : ∃ wa, wa = (w.alloc (.cells #[.bool true, .slice A nk ca, .slice B nk cb, .slice C nc cc] 30)).alloc (.cells #[.bool false, .slice none 0 0, .slice none 0 0, .slice none 0 0] 30) := ⟨_, rfl⟩
  have BA : Below w.heap.size w wa := by rw [hwa]; exact ((Below.refl _ _).alloc (Nat.le_refl _) _).alloc (by simp) _
  have NB : Bk wa w.heap.size 30 #[.bool true, .slice A nk ca, .slice B nk cb, .slice C nc cc] := by rw [hwa]; exact (Bk.new w _ _).alloc _
  have RB : Bk wa (w.heap.size + 1) 30 #[.bool false, .slice none 0 0, .slice none 0 0, .slice none 0 0] := by
    rw [hwa]
    have k1 := Bk.new (w.alloc (.cells #[.bool true, .slice A nk ca, .slice B nk cb, .slice C nc cc] 30)) 30 #[.bool false, .slice none 0 0, .slice none 0 0, .slice none 0 0]
    rw [World.size_alloc] at k1
    exact k1
  have CI0 := inform_any ⟨true, ks, vs, cs⟩ A B C nk ca nk cb nc cc wa (h.bel BA)
  rw [hf] at CI0
  have CI := Lib.hid CI0
  have HBA := Lib.hid BA
  have HNB := Lib.hid NB
  have HRB := Lib.hid RB
  have HWA := Lib.hid hwa
  have y0 := NB.cell 0
  have y1 := NB.cell 1
  have y2 := NB.cell 2
  have y3 := NB.cell 3
  have hsz : w.heap.size + 2 ≤ wa.heap.size := by rw [hwa]; simp
  clear h hf CI0 BA NB RB hwa
  go_enter Try.func6, Try.ntmps6
  go_upto_region 1 with fail
  rw [← HWA.out]
  go_wp2_with fail
  refine CI.out.mono ?_
  rintro e w1 ⟨rfl, hb1⟩
  have HB1 := Lib.hid (HBA.out.trans (hb1.mono HBA.out.size))
  have HN1 := Lib.hid (HNB.out.bel hb1)
  have HR1 := Lib.hid (HRB.out.bel hb1)
  have hs1 := hb1.size
  clear y0 y1 y2 y3 hb1 CI HBA HNB HRB HWA
  have y0 := HN1.out.cell 0
  have y1 := HN1.out.cell 1
  have y2 := HN1.out.cell 2
  have y3 := HN1.out.cell 3
  have CP := Lib.hid (part_all ks vs cs A B C nk ca cb nc cc w1 (H.out.bel HB1.out) hA hB)
  go_wp2_with fail
  refine CP.out.mono ?_
  rintro e w2 ⟨⟨a1, a2, rfl, o1, o2, ap⟩, hb2⟩
  have AP := Lib.hid ap
  have O1 := Lib.hid (World.ownsRow.mono o1 HB1.out.size)
  have O2 := Lib.hid (World.ownsRow.mono o2 HB1.out.size)
  obtain ⟨K, ck, rfl, hck, _⟩ := own_shape o1
  obtain ⟨V, cv, rfl, hcv, _⟩ := own_shape o2
  obtain ⟨w3, hw3⟩ : ∃ w3, w3 = w2.alloc (.cells #[.bool true, .slice K nk ck, .slice V nk cv, .slice none 0 0] 30) := ⟨_, rfl⟩
  have hs2 := hb2.size
  have HS3 := Lib.hid (show SuG w #[.bool true, .slice A nk ca, .slice B nk cb, .slice C nc cc] w2.heap.size nk nk ks vs (.slice K nk ck) (.slice V nk cv) w3 by
    have h2 := HB1.out.trans (hb2.mono HB1.out.size)
    have al := (Below.refl w2.heap.size w2).alloc (Nat.le_refl _) (.cells #[.bool true, .slice K nk ck, .slice V nk cv, .slice none 0 0] 30)
    rw [hw3]
    exact ⟨h2.alloc h2.size _, (HN1.out.bel hb2).bel al, (HR1.out.bel hb2).bel al, Bk.new w2 _ _, own_belS O1.out al, own_belS O2.out al, AP.out, by omega⟩)
  have HW3 := Lib.hid hw3
  obtain ⟨gO, hgO⟩ : ∃ g, g = w2.heap.size := ⟨_, rfl⟩
  have CF := Lib.hid (find_any true ks vs cs A B C nk ca nk cb nc cc x w3 (H.out.bel HS3.out.bel) HK.out)
  clear o1 o2 ap hb2 hw3 y0 y1 y2 y3 AP O1 O2 HB1 HN1 HR1 CP
  go_upto_region 4 with fail
  rw [← HW3.out]
  rw [← hgO] at HS3 ⊢
  clear HW3 hgO
  have y0 := HS3.out.nb.cell 0
  have y1 := HS3.out.nb.cell 1
  have y2 := HS3.out.nb.cell 2
  have y3 := HS3.out.nb.cell 3
  go_wp2_with fail
  refine CF.out.mono ?_
  rintro e w4 ⟨rfl, hb4⟩
  have HS4 := Lib.hid (HS3.out.next hb4)
  clear hb4 HS3 y0 y1 y2 y3 CF
  have ha0 := atN_le ks x
  obtain ⟨a, hae⟩ : ∃ a, a = atN ks x := ⟨_, rfl⟩
  obtain ⟨ht, hte⟩ : ∃ t, t = hitB ks x := ⟨_, rfl⟩
  rw [← hae, ← hte]
  have HT := Lib.hid (show setK ks x = putL ks a ht.toNat x ∧ setV ks vs x y = putL vs a ht.toNat y by rw [hae, hte]; exact ⟨rfl, rfl⟩)
  have HTA := Lib.hid (show ht = true → ∃ hl : a < ks.length, ks[a] = x by
    intro h1
    obtain ⟨h2, h3⟩ := hit_at HK.out (hte ▸ h1)
    subst hae
    exact ⟨h2, h3⟩)
  rw [← hae] at ha0
  rw [← EK.out] at ha0
  clear hae hte
  have z1 := HS4.out.ob.cell 1
  have z2 := HS4.out.ob.cell 2
  have FIN : ∀ (m2 : Nat) (c1 c2 : Nat) (K2 V2 : Option Addr) (wr : World), SuG w #[.bool true, .slice A nk ca, .slice B nk cb, .slice C nc cc] gO m2 m2 (setK ks x) (setV ks vs x y) (.slice K2 m2 c1) (.slice V2 m2 c2) wr →
      ((((wr.setCell ⟨w.heap.size + 1, 0, none⟩ (.bool true)).setCell ⟨w.heap.size + 1, 1, none⟩ (.slice K2 m2 c1)).setCell ⟨w.heap.size + 1, 2, none⟩ (.slice V2 m2 c2)).setCell ⟨w.heap.size + 1, 3, none⟩ (.slice none 0 0)).ownsRow w.heap.size 9 1 (.slice K2 m2 c1) m2 (strV (setK ks x)) ∧
      ((((wr.setCell ⟨w.heap.size + 1, 0, none⟩ (.bool true)).setCell ⟨w.heap.size + 1, 1, none⟩ (.slice K2 m2 c1)).setCell ⟨w.heap.size + 1, 2, none⟩ (.slice V2 m2 c2)).setCell ⟨w.heap.size + 1, 3, none⟩ (.slice none 0 0)).ownsRow w.heap.size 9 1 (.slice V2 m2 c2) m2 (strV (setV ks vs x y)) ∧
      Below w.heap.size w ((((wr.setCell ⟨w.heap.size + 1, 0, none⟩ (.bool true)).setCell ⟨w.heap.size + 1, 1, none⟩ (.slice K2 m2 c1)).setCell ⟨w.heap.size + 1, 2, none⟩ (.slice V2 m2 c2)).setCell ⟨w.heap.size + 1, 3, none⟩ (.slice none 0 0)) := fun m2 c1 c2 K2 V2 wr hS => by
    have hkk := (((Kept1.set wr (w.heap.size + 1) 0 (.bool true)).trans (Kept1.set _ (w.heap.size + 1) 1 (.slice K2 m2 c1))).trans (Kept1.set _ (w.heap.size + 1) 2 (.slice V2 m2 c2))).trans (Kept1.set _ (w.heap.size + 1) 3 (.slice none 0 0))
    exact ⟨own_apart hS.ok hS.res (by decide) hkk, own_apart hS.ov hS.res (by decide) hkk, (((hS.bel.setCell (p := ⟨w.heap.size + 1, 0, none⟩) (show w.heap.size ≤ w.heap.size + 1 by omega) (.bool true)).setCell (p := ⟨w.heap.size + 1, 1, none⟩) (show w.heap.size ≤ w.heap.size + 1 by omega) (.slice K2 m2 c1)).setCell (p := ⟨w.heap.size + 1, 2, none⟩) (show w.heap.size ≤ w.heap.size + 1 by omega) (.slice V2 m2 c2)).setCell (p := ⟨w.heap.size + 1, 3, none⟩) (show w.heap.size ≤ w.heap.size + 1 by omega) (.slice none 0 0)⟩
  have HFIN := Lib.hid FIN
  clear FIN
  have hgt := HS4.out.gt
  cases ht
  · have RK := Lib.hid (show setK ks x = ks.take a ++ x :: ks.drop a from HT.out.1)
    have RV := Lib.hid (show setV ks vs x y = vs.take a ++ y :: vs.drop a from HT.out.2)
    clear HT HTA
    obtain ⟨w5, hw5⟩ : ∃ w5, w5 = w4.alloc (.cells #[.string x] 9) := ⟨_, rfl⟩
    have HS5 := Lib.hid (show SuG w #[.bool true, .slice A nk ca, .slice B nk cb, .slice C nc cc] gO nk nk ks vs (.slice K nk ck) (.slice V nk cv) w5 by rw [hw5]; exact HS4.out.next ((Below.refl _ _).alloc (Nat.le_refl _) _))
    have CI := Lib.hid (insert_any w.heap.size w4.heap.size (.slice K nk ck) ks a x w5 (by rw [← EK.out]; exact HS5.out.ok) (by rw [← EK.out]; exact ha0) (by rw [hw5]; exact Bk.new w4 _ _) (fun e => by have := (own_ge HS4.out.ok e).2; omega) HS5.out.bel.size (by rw [← EK.out]; exact hbk))
    have HW5 := Lib.hid hw5
    clear hw5
    go_upto_region 9 with (rw [← HW5.out]; go_at_call 18; refine CI.out.mono ?_; rintro e w6 ⟨v', rfl, hP⟩; have hr := hP.row; rw [← EK.out] at hr; obtain ⟨K2, c2, rfl, hc2, _⟩ := own_shape hr; have HP := Lib.hid (HS5.out.key hr hP.kept hP.bel hP.at'); have p1 := HP.out.1.cell 1; have p2 := HP.out.1.frozen 1; clear hP hr)
    obtain ⟨w7, hw7⟩ : ∃ w7, w7 = w6.setCell ⟨gO, 1, none⟩ (.slice K2 (nk + 1) c2) := ⟨_, rfl⟩
    rw [← hw7]
    have HS7 := Lib.hid (hw7 ▸ HP.out.2)
    clear HP hw7 p1 p2 z1 z2 HS5 HS4 HW5 CI
    have z2 := HS7.out.ob.cell 2
    obtain ⟨w8, hw8⟩ : ∃ w8, w8 = w7.alloc (.cells #[.string y] 9) := ⟨_, rfl⟩
    have HS8 := Lib.hid (show SuG w #[.bool true, .slice A nk ca, .slice B nk cb, .slice C nc cc] gO (nk + 1) nk (ks.take a ++ x :: ks.drop a) vs (.slice K2 (nk + 1) c2) (.slice V nk cv) w8 by rw [hw8]; exact HS7.out.next ((Below.refl _ _).alloc (Nat.le_refl _) _))
    have CI := Lib.hid (insert_any w.heap.size w7.heap.size (.slice V nk cv) vs a y w8 (by rw [← EV.out]; exact HS8.out.ov) (by rw [← EV.out]; exact ha0) (by rw [hw8]; exact Bk.new w7 _ _) (fun e => by have := (own_ge HS7.out.ov e).2; omega) HS8.out.bel.size (by rw [← EV.out]; exact hbk))
    have HW8 := Lib.hid hw8
    clear hw8
    go_upto_region 10 with (rw [← HW8.out]; go_at_call 18; refine CI.out.mono ?_; rintro e w9 ⟨v', rfl, hP⟩; have hr := hP.row; rw [← EV.out] at hr; obtain ⟨V2, d2, rfl, hd2, _⟩ := own_shape hr; have HP := Lib.hid (HS8.out.val hr hP.kept hP.bel hP.at'); have p1 := HP.out.1.cell 2; have p2 := HP.out.1.frozen 2; clear hP hr)
    obtain ⟨w10, hw10⟩ : ∃ w10, w10 = w9.setCell ⟨gO, 2, none⟩ (.slice V2 (nk + 1) d2) := ⟨_, rfl⟩
    rw [← hw10]
    have HS10 := HP.out.2
    rw [← hw10] at HS10
    rw [← RK.out, ← RV.out] at HS10
    have HF := Lib.hid (HFIN.out _ _ _ _ _ _ HS10)
    clear HP hw10 p1 p2 z2 HS8 HS7 HW8 CI HFIN
    have z0 := HS10.ob.cell 0
    have z1 := HS10.ob.cell 1
    have z2 := HS10.ob.cell 2
    have z3 := HS10.ob.cell 3
    have q0 := HS10.res.cell 0
    have q1 := HS10.res.cell 1
    have q2 := HS10.res.cell 2
    have q3 := HS10.res.cell 3
    have g0 := HS10.res.frozen 0
    have g1 := HS10.res.frozen 1
    have g2 := HS10.res.frozen 2
    have g3 := HS10.res.frozen 3
    clear HS10
    go_wp2_with fail
    exact bodyPost_ret (v := .agg #[.bool true, .slice K2 (nk + 1) c2, .slice V2 (nk + 1) d2, .slice none 0 0]) (by simp [results, Try.results6, go_sem, q0, q1, q2, q3]) rfl ⟨⟨_, _, _, rfl, HF.out.1, HF.out.2.1⟩, HF.out.2.2⟩
  · obtain ⟨hla, hxa⟩ := HTA.out rfl
    have RK := Lib.hid (show setK ks x = ks from HT.out.1.trans (putL_same hla hxa))
    have RV := Lib.hid (show setV ks vs x y = vs.set a y from HT.out.2.trans (putL_set (by have := EK.out; have := EV.out; omega)))
    have hlt : a < nk := by have := EK.out; omega
    obtain ⟨g, hg⟩ : ∃ g, Value.ownBlock (.slice V nk cv) = some g := by
      rcases HS4.out.ov.2 with ⟨_, h0⟩ | ⟨g, cap, cur, h3, _⟩
      · omega
      · exact ⟨g, by rw [h3]; rfl⟩
    obtain ⟨cap, cur, hv, _, _, hc, hcs, hnc⟩ := own_full HS4.out.ov hg
    simp only [Value.slice.injEq] at hv
    obtain ⟨rfl, _, rfl⟩ := hv
    have hbk2 : Bk w4 g 9 cur := hc
    obtain ⟨u0, q1⟩ : ∃ u, w4.cell? ⟨g, a, none⟩ = some u := ⟨cur[a]'(by omega), by rw [hbk2.cell a]; exact Array.getElem?_eq_getElem _⟩
    have q2 := hbk2.frozen a
    have i1 : (0 : Int) ≤ (a : Int) := by omega
    have i2 : (a : Int) < (nk : Int) := by omega
    have HS5 := HS4.out.put hlt y
    obtain ⟨w10, hw10⟩ : ∃ w10, w10 = w4.setCell ⟨g, a, none⟩ (.string y) := ⟨_, rfl⟩
    rw [← hw10] at HS5
    have HW10 := Lib.hid hw10
    have HSS := Lib.hid HS5
    clear HS5 hla hxa HT HTA hw10 hc hcs hg hbk2
    go_upto_region 7 with fail
    rw [← HW10.out]
    have HS10 := HSS.out
    rw [← RV.out] at HS10
    have HS11 : SuG w #[.bool true, .slice A nk ca, .slice B nk cb, .slice C nc cc] gO nk nk (setK ks x) (setV ks vs x y) (.slice K nk ck) (.slice (some ⟨g, 0, none⟩) nk cv) w10 := by rw [RK.out]; exact HS10
    clear HS10
    have HS10 := HS11
    have HF := Lib.hid (HFIN.out _ _ _ _ _ _ HS10)
    clear HS11 q1 q2 z1 z2 HSS HW10 HFIN
    have z0 := HS10.ob.cell 0
    have z1 := HS10.ob.cell 1
    have z2 := HS10.ob.cell 2
    have z3 := HS10.ob.cell 3
    have q0 := HS10.res.cell 0
    have q1 := HS10.res.cell 1
    have q2 := HS10.res.cell 2
    have q3 := HS10.res.cell 3
    have g0 := HS10.res.frozen 0
    have g1 := HS10.res.frozen 1
    have g2 := HS10.res.frozen 2
    have g3 := HS10.res.frozen 3
    clear HS10
    go_wp2_with fail
    exact bodyPost_ret (v := .agg #[.bool true, .slice K nk ck, .slice (some ⟨g, 0, none⟩) nk cv, .slice none 0 0]) (by simp [results, Try.results6, go_sem, q0, q1, q2, q3]) rfl ⟨⟨_, _, _, rfl, HF.out.1, HF.out.2.1⟩, HF.out.2.2⟩
end Go.Proofs.Ytopkkolcimmedaa
