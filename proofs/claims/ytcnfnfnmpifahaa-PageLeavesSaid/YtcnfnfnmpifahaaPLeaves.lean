/- PageLeaves' own walk. Condition: the node's rows lie in memory, and are not too long. -/
import Derived.Test.YtcnfnfnmpifahaaPRSet
import Derived.Test.YtcnfnfnmpifahaaPRUn
import Derived.Test.YtcnfnfnmpifahaaPSet
import Derived.Test.YtcnfnfnmpifahaaNSame
import Derived.Test.YtcnfnfnmpifahaaNAwake
import Derived.Test.YtcnfnfnmpifahaaForm
import Derived.Test.YtcnfnfnmpifahaaStableG
namespace Go.Proofs.Ytcnfnfnmpifahaa
open Go.RowKit

/-- A leaf without kids, in memory. -/
def LfV (ks vs : List ByteArray) (m : Nat) (v : Value) (w : World) : Prop := ∃ K V c1 c2, v = .agg #[.bool true, .slice K m c1, .slice V m c2, .slice none 0 0] ∧ Nd w ⟨true, ks, vs, []⟩ K V none m c1 m c2 0 0
theorem own_len {w : World} {B n : Nat} {e : TypeId} {v : Value} {l : List ByteArray} (h : w.ownsRow B e 1 v n (strV l)) : n = l.length := by
  have := h.1
  rw [strV_length] at this
  omega
theorem leaf_nd {w : World} {B m : Nat} {ks vs : List ByteArray} {K V : Value} (ok : w.ownsRow B 9 1 K m (strV ks)) (ov : w.ownsRow B 9 1 V m (strV vs)) (hm : m ≤ 8796093022208) (zk : ∀ s ∈ ks, s.size ≤ 140737488355328) (zv : ∀ s ∈ vs, s.size ≤ 140737488355328) :
    ∃ A C c1 c2, K = .slice A m c1 ∧ V = .slice C m c2 ∧ Nd w ⟨true, ks, vs, []⟩ A C none m c1 m c2 0 0 := by
  have e1 := own_len ok
  have e2 := own_len ov
  obtain ⟨A, c1, rfl, h1, s1⟩ := own_shape ok
  obtain ⟨C, c2, rfl, h2, s2⟩ := own_shape ov
  exact ⟨A, C, c1, c2, rfl, rfl, ⟨e1, e2, rfl, s1, s2, Seg.nil _ _, hm, hm, by show 0 ≤ _; omega, h1, h2, Nat.le_refl _, zk, zv⟩⟩
def lvF (cl : List Value) (SK SV UK UV : List ByteArray) (m1 m2 j : Nat) (v _u : Value) (w : World) : Prop := match j with
  | 4 => LfV SK SV m1 v w
  | 15 => LfV UK UV m2 v w
  | j => v = cl.getD j undef
theorem lvF_bel {cl : List Value} {SK SV UK UV : List ByteArray} {m1 m2 : Nat} {w w' : World} (hb : Below w.heap.size w w') : ∀ j u u', lvF cl SK SV UK UV m1 m2 j u u' w → lvF cl SK SV UK UV m1 m2 j u u' w' := by
  intro j u u' h
  unfold lvF at *
  split at h
  · obtain ⟨K, V, c1, c2, e, hn⟩ := h; exact ⟨K, V, c1, c2, e, hn.bel hb⟩
  · obtain ⟨K, V, c1, c2, e, hn⟩ := h; exact ⟨K, V, c1, c2, e, hn.bel hb⟩
  · exact h
theorem mem_putL {α : Type} {l : List α} {a h : Nat} {x s : α} (hs : s ∈ putL l a h x) : s = x ∨ s ∈ l := by
  unfold putL at hs
  rcases List.mem_append.1 hs with h1 | h1
  · exact Or.inr (List.mem_of_mem_take h1)
  · rcases List.mem_cons.1 h1 with h2 | h2
    · exact Or.inl h2
    · exact Or.inr (List.mem_of_mem_drop h2)
theorem mem_unL {α : Type} {l : List α} {a : Nat} {b : Bool} {s : α} (hs : s ∈ unL l a b) : s ∈ l := by
  unfold unL unT at hs
  split at hs
  · rcases List.mem_append.1 hs with h1 | h1
    · exact List.mem_of_mem_take h1
    · exact List.mem_of_mem_take (List.mem_of_mem_drop h1)
  · exact List.mem_of_mem_take hs
theorem setK_le (ks : List ByteArray) (x : ByteArray) : (setK ks x).length ≤ ks.length + 1 := by
  unfold setK putL
  simp
  have := atN_le ks x
  omega
theorem unL_le {α : Type} (l : List α) (a : Nat) (b : Bool) : (unL l a b).length ≤ l.length := by
  unfold unL unT
  split
  · simp; omega
  · simp
theorem KeptO.trans' {v : Value} {w w1 w2 : World} (h : KeptO v w w1) (k : KeptO v w1 w2) : KeptO v w w2 := ⟨Nat.le_trans h.size k.size, fun b hb hn => (k.block b (Nat.lt_of_lt_of_le hb h.size) hn).trans (h.block b hb hn)⟩
/-- Where the loop that spoils the first answer's keys stands. -/
structure MuS (W : World) (B m k : Nat) (K : Value) (wr : World) : Prop where
  row : ∃ l : List ByteArray, wr.ownsRow B 9 1 K m (strV l) ∧ ∀ j (hj : j < l.length), k ≤ j → l[j].size ≤ 140737488355328
  kept : KeptO K W wr
  bel : Below B W wr
set_option maxRecDepth 100000 in
set_option maxHeartbeats 8000000 in
theorem pleaves_any (lf : Bool) (ks vs : List ByteArray) (cs : List Int) (A B C : Option Addr) (nk ca nv cb nc cc : Nat) (x y : ByteArray) (w : World) (h : Nd w ⟨lf, ks, vs, cs⟩ A B C nk ca nv cb nc cc) (hbk : nk ≤ 8796093021952) (hx : x.size ≤ 140737488355328) (hy : y.size ≤ 140737488355328) :
    Calls Try.prog 5 #[.agg #[.bool lf, .slice A nk ca, .slice B nv cb, .slice C nc cc], .string x, .string y] w fun e w' => e = .returned (.bool true) ∧ Below w.heap.size w w' := by
  obtain ⟨W0, hW0⟩ : ∃ W0, W0 = w.alloc (.cells #[.bool lf, .slice A nk ca, .slice B nv cb, .slice C nc cc] 25) := ⟨_, rfl⟩
  have B0 : Below w.heap.size w W0 := by rw [hW0]; exact (Below.refl _ _).alloc (Nat.le_refl _) _
  have X0 : Bk W0 w.heap.size 25 #[.bool lf, .slice A nk ca, .slice B nv cb, .slice C nc cc] := by rw [hW0]; exact Bk.new w _ _
  have x0 := X0.cell 0
  have x1 := X0.cell 1
  have x2 := X0.cell 2
  have x3 := X0.cell 3
  have HN0 := Lib.hid h
  have HX0 := Lib.hid X0
  have HB0 := Lib.hid B0
  have C0 := form_any ⟨lf, ks, vs, cs⟩ A B C nk ca nv cb nc cc W0 (h.bel B0)
  obtain ⟨vf, hvf⟩ : ∃ v, v = formB ⟨lf, ks, vs, cs⟩ := ⟨_, rfl⟩
  rw [← hvf] at C0
  have HC0 := Lib.hid C0
  have HW0 := Lib.hid hW0
  have fin : ∀ w1, Below w.heap.size w w1 → Calls Try.prog 10 #[] w1 fun e w' => e = .returned (.bool true) ∧ Below w.heap.size w w' := fun w1 hb => (awake_any w1).mono (by rintro e w' ⟨rfl, hb'⟩; exact ⟨rfl, hb.trans (hb'.mono hb.size)⟩)
  have HFIN := Lib.hid fin
  clear h B0 X0 hW0 C0 fin
  cases vf
  · clear hvf
    go_enter Try.func5, Try.ntmps5
    go_upto_region 1 with fail
    rw [← HW0.out]
    go_wp2_with fail
    refine HC0.out.mono ?_
    rintro e w1 ⟨rfl, b1⟩
    have HB1 := Lib.hid (HB0.out.trans (b1.mono HB0.out.size))
    clear b1 x0 x1 x2 x3
    go_wp2_with fail
    refine (HFIN.out _ HB1.out).mono ?_
    rintro e w2 ⟨rfl, b2⟩
    go_wp2_with fail
    go_ret
    exact ⟨rfl, b2⟩
  have HF := Lib.hid hvf.symm
  have HK := Lib.hid (form_keys hvf.symm)
  clear hvf
  have ha0 := atN_le ks x
  rw [show ks.length = nk from HN0.out.ek.symm] at ha0
  obtain ⟨a, hae⟩ : ∃ a, a = atN ks x := ⟨_, rfl⟩
  obtain ⟨hb, hbe⟩ : ∃ t, t = hitB ks x := ⟨_, rfl⟩
  have HE := Lib.hid (show a = atN ks x ∧ hb = hitB ks x from ⟨hae, hbe⟩)
  rw [← hae] at ha0
  have bk : nk ≤ 8796093022208 := by omega
  have TW := Lib.hid (fun w1 (hb1 : Below w.heap.size w w1) => twin_own lf ks vs cs A B C nk ca nv cb nc cc w1 (HN0.out.bel hb1))
  have FI := Lib.hid (fun A B C c1 c2 c3 w1 (h1 : Nd w1 ⟨lf, ks, vs, cs⟩ A B C nk c1 nv c2 nc c3) => (by
    have := find_any lf ks vs cs A B C nk c1 nv c2 nc c3 x w1 h1 HK.out
    rwa [← hae, ← hbe] at this : Calls Try.prog 19 #[.agg #[.bool lf, .slice A nk c1, .slice B nv c2, .slice C nc c3], .string x] w1 fun e w' => e = .returned (.tuple #[.int .i64 (a : Nat), .bool hb]) ∧ Below w1.heap.size w1 w'))
  have RF := Lib.hid (fun w1 (hb1 : Below w.heap.size w w1) => (by
    have := rfind_any lf ks vs cs A B C nk ca nv cb nc cc x w1 (HN0.out.bel hb1)
    rwa [← hae, ← hbe] at this : Calls Try.prog 20 #[.agg #[.bool lf, .slice A nk ca, .slice B nv cb, .slice C nc cc], .string x] w1 fun e w' => e = .returned (.tuple #[.int .i64 (a : Nat), .bool hb]) ∧ Below w1.heap.size w1 w'))
  clear hae hbe
  go_enter Try.func5, Try.ntmps5
  go_upto_region 1 with fail
  rw [← HW0.out]
  go_wp2_with fail
  refine HC0.out.mono ?_
  rintro e w1 ⟨rfl, b1⟩
  have HB1 := Lib.hid (HB0.out.trans (b1.mono HB0.out.size))
  have HX1 := Lib.hid (HX0.out.bel b1)
  clear b1 x0 x1 x2 x3 HC0 HX0 HB0 HW0
  have x0 := HX1.out.cell 0
  have x1 := HX1.out.cell 1
  have x2 := HX1.out.cell 2
  have x3 := HX1.out.cell 3
  go_wp2_with fail
  refine (TW.out w1 HB1.out).mono ?_
  rintro e w2 ⟨⟨Ax, Bx, Cx, cx1, cx2, cx3, rfl, hnx, _⟩, b2⟩
  have HB2 := Lib.hid (HB1.out.trans (b2.mono HB1.out.size))
  have HX2 := Lib.hid (HX1.out.bel b2)
  have F2 := Lib.hid (FI.out Ax Bx Cx cx1 cx2 cx3 w2 hnx)
  clear b2 hnx HB1 HX1 x0 x1 x2 x3 FI
  go_wp2_with fail
  refine F2.out.mono ?_
  rintro e w3 ⟨rfl, b3⟩
  have HB3 := Lib.hid (HB2.out.trans (b3.mono HB2.out.size))
  have HX3 := Lib.hid (HX2.out.bel b3)
  clear b3 F2 HB2 HX2
  have x0 := HX3.out.cell 0
  have x1 := HX3.out.cell 1
  have x2 := HX3.out.cell 2
  have x3 := HX3.out.cell 3
  go_wp2_with fail
  refine (RF.out w3 HB3.out).mono ?_
  rintro e w4 ⟨rfl, b4⟩
  have HB4 := Lib.hid (HB3.out.trans (b4.mono HB3.out.size))
  have HX4 := Lib.hid (HX3.out.bel b4)
  clear b4 HB3 HX3 RF x0 x1 x2 x3
  have i1 : ((a : Int) != (a : Int)) = false := by simp
  have i2 : (hb != hb) = false := by simp
  go_wp2_with fail
  refine (awake_any w4).mono ?_
  rintro e w5 ⟨rfl, b5⟩
  have HB5 := Lib.hid (HB4.out.trans (b5.mono HB4.out.size))
  have HX5 := Lib.hid (HX4.out.bel b5)
  clear b5 HB4 HX4
  have x0 := HX5.out.cell 0
  have x1 := HX5.out.cell 1
  have x2 := HX5.out.cell 2
  have x3 := HX5.out.cell 3
  cases lf
  · go_wp2_with fail
    go_ret
    exact ⟨rfl, HB5.out⟩
  obtain ⟨e1, e2⟩ := form_leaf_eq HF.out
  obtain rfl : nk = nv := by rw [HN0.out.ek, HN0.out.ev]; exact e1.symm
  obtain rfl : cs = [] := List.eq_nil_of_length_eq_zero e2
  clear e1 e2
  go_wp2_with fail
  refine (TW.out w5 HB5.out).mono ?_
  rintro e w6 ⟨⟨Ax, Bx, Cx, cx1, cx2, cx3, rfl, hnx, hAx, hBx⟩, b6⟩
  have HAx := Lib.hid hAx
  have HBx := Lib.hid hBx
  obtain ⟨w7, hw7⟩ : ∃ w7, w7 = w6.alloc (.cells #[.bool true, .slice Ax nk cx1, .slice Bx nk cx2, .slice Cx nc cx3] 25) := ⟨_, rfl⟩
  obtain ⟨gX, hgX⟩ : ∃ g, g = w6.heap.size := ⟨_, rfl⟩
  have al7 : Below w6.heap.size w6 w7 := by rw [hw7]; exact (Below.refl _ _).alloc (Nat.le_refl _) _
  have b7 := b6.trans (al7.mono b6.size)
  have HBX := Lib.hid (show Bk w7 gX 25 #[.bool true, .slice Ax nk cx1, .slice Bx nk cx2, .slice Cx nc cx3] by rw [hw7, hgX]; exact Bk.new w6 _ _)
  have HNX := Lib.hid (hnx.bel al7)
  have HB7 := Lib.hid (HB5.out.trans (b7.mono HB5.out.size))
  have HBN := Lib.hid (HX5.out.bel b7)
  have HW7 := Lib.hid hw7
  have HNX7 := HNX
  clear hAx hBx hnx b6 b7 al7 hw7 x0 x1 x2 x3 HX5 HB5 TW
  go_upto_region 10 with fail
  rw [← HW7.out, ← hgX]
  clear HW7 hgX
  have x0 := HBX.out.cell 0
  have x1 := HBX.out.cell 1
  have x2 := HBX.out.cell 2
  have x3 := HBX.out.cell 3
  have SE := Lib.hid (fun w1 (h1 : Nd w1 ⟨true, ks, vs, []⟩ Ax Bx Cx nk cx1 nk cx2 nc cx3) => pset_any ks vs [] Ax Bx Cx nk cx1 cx2 nc cx3 x y w1 h1 HF.out HAx.out HBx.out hbk)
  have UN := Lib.hid (fun w1 (h1 : Nd w1 ⟨true, ks, vs, []⟩ Ax Bx Cx nk cx1 nk cx2 nc cx3) => (by
    have := punset_any ks vs [] Ax Bx Cx nk cx1 cx2 nc cx3 x w1 h1 HF.out HAx.out HBx.out
    rwa [← HE.out.1, ← HE.out.2] at this : Calls Try.prog 22 #[.agg #[.bool true, .slice Ax nk cx1, .slice Bx nk cx2, .slice Cx nc cx3], .string x] w1 fun e w' => (∃ K V m, e = .returned (.tuple #[.agg #[.bool true, K, V, .slice none 0 0], .bool hb]) ∧ w'.ownsRow w1.heap.size 9 1 K m (strV (unL ks a hb)) ∧ w'.ownsRow w1.heap.size 9 1 V m (strV (unL vs a hb))) ∧ Below w1.heap.size w1 w'))
  obtain ⟨SK, hSK⟩ : ∃ l, l = setK ks x := ⟨_, rfl⟩
  obtain ⟨SV, hSV⟩ : ∃ l, l = setV ks vs x y := ⟨_, rfl⟩
  obtain ⟨UK, hUK⟩ : ∃ l, l = unL ks a hb := ⟨_, rfl⟩
  obtain ⟨UV, hUV⟩ : ∃ l, l = unL vs a hb := ⟨_, rfl⟩
  have zk0 := HN0.out.zk
  have zv0 := HN0.out.zv
  have ZSK := Lib.hid (show ∀ s ∈ SK, s.size ≤ 140737488355328 from fun s hs => by
    rw [hSK] at hs
    rcases mem_putL hs with rfl | hs
    · exact hx
    · exact zk0 s hs)
  have ZSV := Lib.hid (show ∀ s ∈ SV, s.size ≤ 140737488355328 from fun s hs => by
    rw [hSV] at hs
    rcases mem_putL hs with rfl | hs
    · exact hy
    · exact zv0 s hs)
  have ZUK := Lib.hid (show ∀ s ∈ UK, s.size ≤ 140737488355328 from fun s hs => zk0 s (mem_unL (hUK ▸ hs)))
  have ZUV := Lib.hid (show ∀ s ∈ UV, s.size ≤ 140737488355328 from fun s hs => zv0 s (mem_unL (hUV ▸ hs)))
  have hks : ks.length = nk := HN0.out.ek.symm
  have LSK : SK.length ≤ nk + 1 := by rw [hSK, ← hks]; exact setK_le ks x
  have LUK : UK.length ≤ nk := by rw [hUK, ← hks]; exact unL_le ks a hb
  have RS := Lib.hid (fun w1 (h1 : Nd w1 ⟨true, ks, vs, []⟩ A B C nk ca nk cb nc cc) => (by
    refine (rset_any ks vs [] A B C nk ca cb nc cc x y w1 h1 HK.out hbk).mono ?_
    rintro e w' ⟨⟨K, V, m, rfl, o1, o2⟩, hb'⟩
    rw [← hSK] at o1
    rw [← hSV] at o2
    obtain rfl := own_len o1
    obtain ⟨A1, C1, c1, c2, rfl, rfl, hn⟩ := leaf_nd o1 o2 (by omega) ZSK.out ZSV.out
    exact ⟨⟨A1, C1, c1, c2, rfl, hn⟩, hb'⟩ : Calls Try.prog 23 #[.agg #[.bool true, .slice A nk ca, .slice B nk cb, .slice C nc cc], .string x, .string y] w1 fun e w' => (∃ K V c1 c2, e = .returned (.agg #[.bool true, .slice K SK.length c1, .slice V SK.length c2, .slice none 0 0]) ∧ Nd w' ⟨true, SK, SV, []⟩ K V none SK.length c1 SK.length c2 0 0) ∧ Below w1.heap.size w1 w'))
  have RU := Lib.hid (fun w1 (h1 : Nd w1 ⟨true, ks, vs, []⟩ A B C nk ca nk cb nc cc) => (by
    refine (runset_any ks vs [] A B C nk ca cb nc cc x w1 h1 HK.out).mono ?_
    rintro e w' ⟨⟨K, V, m, rfl, o1, o2⟩, hb'⟩
    rw [← HE.out.1, ← HE.out.2, ← hUK] at o1
    rw [← HE.out.1, ← HE.out.2, ← hUV] at o2
    obtain rfl := own_len o1
    obtain ⟨A1, C1, c1, c2, rfl, rfl, hn⟩ := leaf_nd o1 o2 (by omega) ZUK.out ZUV.out
    exact ⟨⟨A1, C1, c1, c2, rfl, hn⟩, hb'⟩ : Calls Try.prog 24 #[.agg #[.bool true, .slice A nk ca, .slice B nk cb, .slice C nc cc], .string x] w1 fun e w' => (∃ K V c1 c2, e = .returned (.agg #[.bool true, .slice K UK.length c1, .slice V UK.length c2, .slice none 0 0]) ∧ Nd w' ⟨true, UK, UV, []⟩ K V none UK.length c1 UK.length c2 0 0) ∧ Below w1.heap.size w1 w'))
  rw [← hSK, ← hSV] at SE
  rw [← hUK, ← hUV] at UN
  clear hSK hSV hUK hUV zk0 zv0 hks HE
  obtain ⟨m1, hm1⟩ : ∃ m, m = SK.length := ⟨_, rfl⟩
  obtain ⟨m2, hm2⟩ : ∃ m, m = UK.length := ⟨_, rfl⟩
  rw [← hm1] at RS LSK
  rw [← hm2] at RU LUK
  have HM1 := Lib.hid hm1
  have HM2 := Lib.hid hm2
  clear hm1 hm2
  go_wp2_with fail
  refine (SE.out w7 HNX.out).mono ?_
  rintro e w8 ⟨⟨K, V, m, rfl, o1, o2⟩, b8⟩
  obtain rfl : m1 = m := HM1.out.trans (own_len o1).symm
  obtain ⟨Ks, ck, rfl, hck, _⟩ := own_shape o1
  obtain ⟨Vs, cv, rfl, hcv, _⟩ := own_shape o2
  obtain ⟨w9, hw9⟩ : ∃ w9, w9 = w8.alloc (.cells #[.bool true, .slice Ks m1 ck, .slice Vs m1 cv, .slice none 0 0] 25) := ⟨_, rfl⟩
  obtain ⟨gS, hgS⟩ : ∃ g, g = w8.heap.size := ⟨_, rfl⟩
  have al9 : Below w8.heap.size w8 w9 := by rw [hw9]; exact (Below.refl _ _).alloc (Nat.le_refl _) _
  have b9 := b8.trans (al9.mono b8.size)
  have HBS := Lib.hid (show Bk w9 gS 25 #[.bool true, .slice Ks m1 ck, .slice Vs m1 cv, .slice none 0 0] by rw [hw9, hgS]; exact Bk.new w8 _ _)
  have HOS := Lib.hid (own_belS o1 al9)
  have HB9 := Lib.hid (HB7.out.trans (b9.mono HB7.out.size))
  have HBX9 := Lib.hid (HBX.out.bel b9)
  have HNX9 := Lib.hid (HNX.out.bel b9)
  have HBN9 := Lib.hid (HBN.out.bel b9)
  have HW9 := Lib.hid hw9
  have hs79 : w7.heap.size ≤ w9.heap.size := b9.size
  have HB79 := Lib.hid b9
  clear o1 o2 b8 al9 b9 hw9 x0 x1 x2 x3 HBX HNX HBN
  go_upto_region 11 with fail
  rw [← HW9.out, ← hgS]
  clear HW9 hgS
  have x0 := HBX9.out.cell 0
  have x1 := HBX9.out.cell 1
  have x2 := HBX9.out.cell 2
  have x3 := HBX9.out.cell 3
  go_wp2_with fail
  refine (UN.out w9 HNX9.out).mono ?_
  rintro e w10 ⟨⟨K, V, m, rfl, o1, o2⟩, b10⟩
  obtain rfl : m2 = m := HM2.out.trans (own_len o1).symm
  obtain ⟨Ku, cu1, rfl, hcu1, _⟩ := own_shape o1
  obtain ⟨Vu, cu2, rfl, hcu2, _⟩ := own_shape o2
  obtain ⟨w11, hw11⟩ : ∃ w11, w11 = w10.alloc (.cells #[.bool true, .slice Ku m2 cu1, .slice Vu m2 cu2, .slice none 0 0] 25) := ⟨_, rfl⟩
  obtain ⟨gU, hgU⟩ : ∃ g, g = w10.heap.size := ⟨_, rfl⟩
  have al11 : Below w10.heap.size w10 w11 := by rw [hw11]; exact (Below.refl _ _).alloc (Nat.le_refl _) _
  have b11 := b10.trans (al11.mono b10.size)
  have HBU := Lib.hid (show Bk w11 gU 25 #[.bool true, .slice Ku m2 cu1, .slice Vu m2 cu2, .slice none 0 0] by rw [hw11, hgU]; exact Bk.new w10 _ _)
  have HOU1 := Lib.hid (own_belS o1 al11)
  have HOU2 := Lib.hid (own_belS o2 al11)
  have HB11 := Lib.hid (HB9.out.trans (b11.mono HB9.out.size))
  have HBX11 := Lib.hid (HBX9.out.bel b11)
  have HBN11 := Lib.hid (HBN9.out.bel b11)
  have HBS11 := Lib.hid (HBS.out.bel b11)
  have HOS11 := Lib.hid (own_belS HOS.out b11)
  have HNX11 := Lib.hid (HNX9.out.bel b11)
  have HW11 := Lib.hid hw11
  have HLS := Lib.hid (show ∀ g, Value.ownBlock (.slice Ks m1 ck) = some g → w7.heap.size ≤ g ∧ g < w9.heap.size from fun g e => own_ge HOS.out e)
  have HD := Lib.hid (show Below w7.heap.size w7 w7 from Below.refl _ _)
  have hs911 : w9.heap.size ≤ w11.heap.size := b11.size
  have HB711 := Lib.hid (HB79.out.trans (b11.mono hs79))
  clear o1 o2 b10 al11 b11 hw11 x0 x1 x2 x3 HBX9 HBN9 HBS HOS HNX9 UN
  go_upto_region 12 with fail
  rw [← HW11.out, ← hgU]
  clear HW11 hgU HD
  have x1 := HBS11.out.cell 1
  have bm1 : m1 ≤ 8796093021953 := by omega
  go_wp2_with fail
  go_loopw [64] (fun s wr => ∃ k : Nat, k ≤ m1 ∧ s = .int .i64 k ∧ Hid (MuS w11 w7.heap.size m1 k (.slice Ks m1 ck) wr)) (fun s _ => m1 - (intOf s).toNat)
  case atStart => exact ⟨0, by omega, rfl, Lib.hid ⟨⟨SK, HOS11.out, fun j hj _ => ZSK.out _ (List.getElem_mem hj)⟩, ⟨Nat.le_refl _, fun _ _ _ => rfl⟩, Below.refl _ _⟩⟩
  case round =>
    clear x1
    obtain ⟨k, hkm, rfl, hM⟩ := hrel
    have HBSr := hM.out.kept.bk HBS11.out (own_tyne HOS11.out HBS11.out (by decide))
    have x1 := HBSr.cell 1
    by_cases hlt : k < m1
    · obtain ⟨l, ho, hz⟩ := hM.out.row
      have hll := own_len ho
      have hkl : k < l.length := by omega
      obtain ⟨g, hg⟩ : ∃ g, Value.ownBlock (.slice Ks m1 ck) = some g := by
        rcases ho.2 with ⟨_, h0⟩ | ⟨g, cap, cur, h3, _⟩
        · omega
        · exact ⟨g, by rw [h3]; rfl⟩
      obtain ⟨cap, cur, hv, _, _, hc, hcs, hnc⟩ := own_full ho hg
      simp only [Value.slice.injEq] at hv
      obtain ⟨rfl, _, rfl⟩ := hv
      obtain ⟨s0, hs0⟩ : ∃ s, s = l[k] := ⟨_, rfl⟩
      have hbk2 : Bk wr g 9 cur := hc
      have q1 : wr.cell? ⟨g, k, none⟩ = some (.string s0) := by
        obtain ⟨b', off', e, _, hcell⟩ := (Seg.of_own ho) (fun e => by have h0 := congrArg List.length e; rw [strV_length] at h0; have h1 : l.length = 0 := h0; omega)
        simp only [Option.some.injEq, Addr.mk.injEq, and_true] at e
        obtain ⟨rfl, rfl⟩ := e
        have := hcell k (by rw [strV_length]; exact hkl)
        rw [Nat.zero_add] at this
        rw [this]
        simp [strV, hkl, hs0]
      have q2 := hbk2.frozen k
      have hsz := hz k hkl (Nat.le_refl _)
      rw [← hs0] at hsz
      have hadd := fun w => run_string_add_sum (P := Try.prog) w s0 ⟨#[33]⟩ (by show s0.size + 1 ≤ _; omega)
      have i3 : (0 : Int) ≤ (k : Int) := by omega
      have i4 : (k : Int) < (m1 : Int) := by omega
      have E1 := Lib.hid (show ((k : Int) + 1) = ((k + 1 : Nat) : Int) by omega)
      have MM := Lib.hid (show m1 - (intOf (.int .i64 ((k + 1 : Nat) : Int))).toNat < m1 - (intOf (.int .i64 (k : Int))).toNat by simp only [intOf]; omega)
      have NX := Lib.hid (show MuS w11 w7.heap.size m1 (k + 1) (.slice (some ⟨g, 0, none⟩) m1 ck) (wr.setCell ⟨g, k, none⟩ (.string (s0 ++ ⟨#[33]⟩))) from
        ⟨⟨l.set k (s0 ++ ⟨#[33]⟩), by
          have := own_set0 (u := .string (s0 ++ ⟨#[33]⟩)) ho hlt
          rwa [show (strV l).set k (.string (s0 ++ ⟨#[33]⟩)) = strV (l.set k (s0 ++ ⟨#[33]⟩)) by simp [strV, List.map_set]] at this, fun j hj hkj => by
            rw [List.getElem_set_ne (by omega)]
            exact hz j (by rw [List.length_set] at hj; exact hj) (by omega)⟩,
          hM.out.kept.trans' ⟨by simp, fun b hb1 hb2 => Below.heap_setCell wr ⟨g, k, none⟩ _ b (fun e => hb2 (by rw [e]; rfl))⟩,
          hM.out.bel.setCell (p := ⟨g, k, none⟩) (own_ge ho rfl).1 _⟩)
      clear ho hz hll hkl hg hc hcs hnc hbk2 hs0 hsz hM
      go_wp2_with fail
      rw [E1.out]
      exact ⟨⟨k + 1, by omega, rfl, NX⟩, MM.out⟩
    · have HMu := Lib.hid hM.out
      clear hM HBSr x1
      have HSg := Lib.hid (show ∀ (b : Nat) (cs : Array Value), Bk w11 b 25 cs → Bk wr b 25 cs from fun b cs hb' => HMu.out.kept.bk hb' (own_tyne HOS11.out hb' (by decide)))
      have HBXr := Lib.hid (HSg.out _ _ HBX11.out)
      have HBNr := Lib.hid (HSg.out _ _ HBN11.out)
      have HBUr := Lib.hid (HSg.out _ _ HBU.out)
      have AU : ∀ {u : Value} {n : Nat} {xs : List Value}, w11.ownsRow w9.heap.size 9 1 u n xs → Apart (.slice Ks m1 ck) u := fun hu b h1 h2 => by
        have e1 := (HLS.out b h1).2
        have e2 := (own_ge hu h2).1
        omega
      have HOr1 := Lib.hid (HMu.out.kept.own HOU1.out (AU HOU1.out))
      have HOr2 := Lib.hid (HMu.out.kept.own HOU2.out (AU HOU2.out))
      have HBr := Lib.hid (show Below w.heap.size w wr from HB11.out.trans (HMu.out.bel.mono HB7.out.size))
      have HNXr := Lib.hid (show Nd wr ⟨true, ks, vs, []⟩ Ax Bx Cx nk cx1 nk cx2 nc cx3 from HNX7.out.bel (HB711.out.trans HMu.out.bel))
      clear AU HSg HBX11 HBN11 HBU HOU1 HOU2 HMu HB11
      have x0 := HBXr.out.cell 0
      have x1 := HBXr.out.cell 1
      have x2 := HBXr.out.cell 2
      have x3 := HBXr.out.cell 3
      go_wp2_with fail
      refine (SE.out wr HNXr.out).mono ?_
      rintro e w13 ⟨⟨K, V, m, rfl, o1, o2⟩, b13⟩
      obtain rfl : m1 = m := HM1.out.trans (own_len o1).symm
      obtain ⟨Kt, Vt, ct1, ct2, hk1, hv1, hnt⟩ := leaf_nd o1 o2 (by omega) ZSK.out ZSV.out
      subst hk1 hv1
      obtain ⟨W8, hW8⟩ : ∃ w9, w9 = w13.alloc (.cells #[.bool true, .slice Kt m1 ct1, .slice Vt m1 ct2, .slice none 0 0] 25) := ⟨_, rfl⟩
      obtain ⟨gT, hgT⟩ : ∃ g, g = w13.heap.size := ⟨_, rfl⟩
      have al14 : Below w13.heap.size w13 W8 := by rw [hW8]; exact (Below.refl _ _).alloc (Nat.le_refl _) _
      have b14 := b13.trans (al14.mono b13.size)
      have HBT := Lib.hid (show Bk W8 gT 25 #[.bool true, .slice Kt m1 ct1, .slice Vt m1 ct2, .slice none 0 0] by rw [hW8, hgT]; exact Bk.new w13 _ _)
      have HNT := Lib.hid (hnt.bel al14)
      have HB8 := Lib.hid (HBr.out.trans (b14.mono HBr.out.size))
      have HBX := Lib.hid (HBXr.out.bel b14)
      have HBN := Lib.hid (HBNr.out.bel b14)
      have HBU := Lib.hid (HBUr.out.bel b14)
      have HNX := Lib.hid (HNXr.out.bel b14)
      have HND := Lib.hid (HN0.out.bel HB8.out)
      have u1 := own_belS HOr1.out b14
      have u2 := own_belS HOr2.out b14
      have HNU := Lib.hid (show Nd W8 ⟨true, UK, UV, []⟩ Ku Vu none m2 cu1 m2 cu2 0 0 by
        obtain ⟨A1, C1, c1, c2, e1, e2, hn⟩ := leaf_nd u1 u2 (by omega) ZUK.out ZUV.out
        simp only [Value.slice.injEq, true_and] at e1 e2
        obtain ⟨rfl, rfl⟩ := e1
        obtain ⟨rfl, rfl⟩ := e2
        exact hn)
      have HW8 := Lib.hid hW8
      clear o1 o2 b13 al14 b14 hnt hW8 x0 x1 x2 x3 u1 u2 HBXr HBNr HBUr HNXr HOr1 HOr2 HBr
      have i5 : (hb == hb) = true := by simp
      go_upto_region 18 with fail
      rw [← HW8.out, ← hgT]
      clear HW8 hgT
      go_wp2_with fail
      refine wp_region_guarded [some 79, some 80, some 81, some 82, some 83, some 84, some 85, some 86, some 87, some 88, some 89, some 90, some 91, some 92, some 93, some 94, some 95, some 96, some 97, some 98, some 99, some 100, some 101, some 6] (fun _ => 0) (lvF [.agg #[.bool true, .slice Kt m1 ct1, .slice Vt m1 ct2, .slice none 0 0], .agg #[.bool true, .slice A nk ca, .slice B nk cb, .slice C nc cc], .string x, .string y, undef, .bool true, .bool true, .bool hb, .bool hb, .bool true, .bool true, .bool true, .agg #[.bool true, .slice Ku m2 cu1, .slice Vu m2 cu2, .slice none 0 0], .agg #[.bool true, .slice A nk ca, .slice B nk cb, .slice C nc cc], .string x, undef, .bool true, .bool true, .bool true, .agg #[.bool true, .slice Ax nk cx1, .slice Bx nk cx2, .slice Cx nc cx3], .agg #[.bool true, .slice A nk ca, .slice B nk cb, .slice C nc cc], .bool true, .bool true, .bool true] SK SV UK UV m1 m2) (fun w' => Below W8.heap.size W8 w') (by kernel_rfl) (Below.refl _ _).drew rfl (by kernel_rfl) (by kernel_rfl) (by kernel_rfl) (fun T hT => ?_)
      simp only [List.filterMap_cons, List.filterMap_nil, id, putsS, Act.put, List.setIfInBounds_toArray, List.set_cons_zero, List.set_cons_succ] at hT
      subst hT
      refine ⟨⟨?_, ?_, ?_, ?_, ?_, ?_, ?_, ?_, ?_, ?_, ?_, ?_, ?_, ?_, ?_, ?_, ?_, ?_, ?_, ?_, ?_, ?_, ?_, ?_, trivial⟩, ?_⟩
      · refine StepA.guarded rfl ?_
        intro f w1 hG hF K hK
        clear hF
        dsimp only at hK ⊢
        have y0 : w1.cell? ⟨gT, 0, none⟩ = some (.bool true) := (HBT.out.bel hG).cell 0
        have y1 : w1.cell? ⟨gT, 1, none⟩ = some (.slice Kt m1 ct1) := (HBT.out.bel hG).cell 1
        have y2 : w1.cell? ⟨gT, 2, none⟩ = some (.slice Vt m1 ct2) := (HBT.out.bel hG).cell 2
        have y3 : w1.cell? ⟨gT, 3, none⟩ = some (.slice none 0 0) := (HBT.out.bel hG).cell 3
        go_simp
        exact hK.out _ _ hG rfl (fun _ _ _ h => h)
      · refine StepA.guarded rfl ?_
        intro f w1 hG hF K hK
        clear hF
        dsimp only at hK ⊢
        have y0 : w1.cell? ⟨w.heap.size, 0, none⟩ = some (.bool true) := (HBN.out.bel hG).cell 0
        have y1 : w1.cell? ⟨w.heap.size, 1, none⟩ = some (.slice A nk ca) := (HBN.out.bel hG).cell 1
        have y2 : w1.cell? ⟨w.heap.size, 2, none⟩ = some (.slice B nk cb) := (HBN.out.bel hG).cell 2
        have y3 : w1.cell? ⟨w.heap.size, 3, none⟩ = some (.slice C nc cc) := (HBN.out.bel hG).cell 3
        go_simp
        exact hK.out _ _ hG rfl (fun _ _ _ h => h)
      · refine StepA.guarded rfl ?_
        intro f w1 hG hF K hK
        clear hF
        dsimp only at hK ⊢
        go_simp
        exact hK.out _ _ hG rfl (fun _ _ _ h => h)
      · refine StepA.guarded rfl ?_
        intro f w1 hG hF K hK
        clear hF
        dsimp only at hK ⊢
        go_simp
        exact hK.out _ _ hG rfl (fun _ _ _ h => h)
      · refine StepA.guarded rfl ?_
        intro f w1 hG hF K hK
        have d1 : f 80 = .agg #[.bool true, .slice A nk ca, .slice B nk cb, .slice C nc cc] := hF 1 (by kernel_rfl)
        have d2 : f 81 = .string x := hF 2 (by kernel_rfl)
        have d3 : f 82 = .string y := hF 3 (by kernel_rfl)
        clear hF
        dsimp only at hK ⊢
        generalize f 80 = v80 at *
        generalize f 81 = v81 at *
        generalize f 82 = v82 at *
        subst d1
        subst d2
        subst d3
        go_simp
        refine (RS.out w1 (HND.out.bel hG)).mono ?_
        rintro e w20 ⟨⟨K2, V2, p2, q2, rfl, n2⟩, hb20⟩
        exact hK.out _ _ (hG.trans (hb20.mono hG.size)) ⟨K2, V2, p2, q2, rfl, n2⟩ (fun j _ _ h => lvF_bel hb20 j _ _ h)
      · refine StepA.guarded rfl ?_
        intro f w1 hG hF K hK
        have d0 : f 79 = .agg #[.bool true, .slice Kt m1 ct1, .slice Vt m1 ct2, .slice none 0 0] := hF 0 (by kernel_rfl)
        obtain ⟨A4, B4, p4, q4, d4, n4⟩ : LfV SK SV m1 (f 83) w1 := hF 4 (by kernel_rfl)
        clear hF
        dsimp only at hK ⊢
        generalize f 79 = v79 at *
        generalize f 83 = v83 at *
        subst d0
        subst d4
        go_simp
        refine (nsame_any true SK SV [] Kt Vt none A4 B4 none m1 ct1 m1 ct2 0 0 p4 q4 0 w1 (HNT.out.bel hG) n4).mono ?_
        rintro e w20 ⟨rfl, hb20⟩
        exact hK.out _ _ (hG.trans (hb20.mono hG.size)) rfl (fun j _ _ h => lvF_bel hb20 j _ _ h)
      · refine StepA.guarded rfl ?_
        intro f w1 hG hF K hK
        have d5 : f 84 = .bool true := hF 5 (by kernel_rfl)
        clear hF
        dsimp only at hK ⊢
        generalize f 84 = v84 at *
        subst d5
        go_simp
        exact hK.out _ _ hG rfl (fun _ _ _ h => h)
      · intro f w1 hG hF K hK
        have d6 : f 85 = .bool true := hF 6 (by kernel_rfl)
        clear hF
        rw [if_pos (by rw [wanted_val (g := 6) (d := 85) (b := true) (c := true) rfl (by kernel_rfl) (show some (f 85) = some (.bool true) from congrArg some d6)]; rfl)]
        dsimp only at hK ⊢
        generalize f 85 = v85 at *
        subst d6
        go_simp
        exact hK.out _ _ hG rfl (fun _ _ _ h => h)
      · intro f w1 hG hF K hK
        have d6 : f 85 = .bool true := hF 6 (by kernel_rfl)
        clear hF
        rw [if_pos (by rw [wanted_val (g := 6) (d := 85) (b := true) (c := true) rfl (by kernel_rfl) (show some (f 85) = some (.bool true) from congrArg some d6)]; rfl)]
        dsimp only at hK ⊢
        generalize f 85 = v85 at *
        subst d6
        go_simp
        exact hK.out _ _ hG rfl (fun _ _ _ h => h)
      · intro f w1 hG hF K hK
        have d6 : f 85 = .bool true := hF 6 (by kernel_rfl)
        have d7 : f 86 = .bool hb := hF 7 (by kernel_rfl)
        have d8 : f 87 = .bool hb := hF 8 (by kernel_rfl)
        clear hF
        rw [if_pos (by rw [wanted_val (g := 6) (d := 85) (b := true) (c := true) rfl (by kernel_rfl) (show some (f 85) = some (.bool true) from congrArg some d6)]; rfl)]
        dsimp only at hK ⊢
        generalize f 85 = v85 at *
        generalize f 86 = v86 at *
        generalize f 87 = v87 at *
        subst d6
        subst d7
        subst d8
        go_simp
        exact hK.out _ _ hG rfl (fun _ _ _ h => h)
      · refine StepA.guarded rfl ?_
        intro f w1 hG hF K hK
        have d6 : f 85 = .bool true := hF 6 (by kernel_rfl)
        have d9 : f 88 = .bool true := hF 9 (by kernel_rfl)
        clear hF
        dsimp only at hK ⊢
        generalize f 85 = v85 at *
        generalize f 88 = v88 at *
        subst d6
        subst d9
        go_simp
        exact hK.out _ _ hG rfl (fun _ _ _ h => h)
      · refine StepA.guarded rfl ?_
        intro f w1 hG hF K hK
        have d10 : f 89 = .bool true := hF 10 (by kernel_rfl)
        clear hF
        dsimp only at hK ⊢
        generalize f 89 = v89 at *
        subst d10
        go_simp
        exact hK.out _ _ hG rfl (fun _ _ _ h => h)
      · intro f w1 hG hF K hK
        have d11 : f 90 = .bool true := hF 11 (by kernel_rfl)
        clear hF
        rw [if_pos (by rw [wanted_val (g := 11) (d := 90) (b := true) (c := true) rfl (by kernel_rfl) (show some (f 90) = some (.bool true) from congrArg some d11)]; rfl)]
        dsimp only at hK ⊢
        generalize f 90 = v90 at *
        subst d11
        have y0 : w1.cell? ⟨gU, 0, none⟩ = some (.bool true) := (HBU.out.bel hG).cell 0
        have y1 : w1.cell? ⟨gU, 1, none⟩ = some (.slice Ku m2 cu1) := (HBU.out.bel hG).cell 1
        have y2 : w1.cell? ⟨gU, 2, none⟩ = some (.slice Vu m2 cu2) := (HBU.out.bel hG).cell 2
        have y3 : w1.cell? ⟨gU, 3, none⟩ = some (.slice none 0 0) := (HBU.out.bel hG).cell 3
        go_simp
        exact hK.out _ _ hG rfl (fun _ _ _ h => h)
      · intro f w1 hG hF K hK
        have d11 : f 90 = .bool true := hF 11 (by kernel_rfl)
        clear hF
        rw [if_pos (by rw [wanted_val (g := 11) (d := 90) (b := true) (c := true) rfl (by kernel_rfl) (show some (f 90) = some (.bool true) from congrArg some d11)]; rfl)]
        dsimp only at hK ⊢
        generalize f 90 = v90 at *
        subst d11
        have y0 : w1.cell? ⟨w.heap.size, 0, none⟩ = some (.bool true) := (HBN.out.bel hG).cell 0
        have y1 : w1.cell? ⟨w.heap.size, 1, none⟩ = some (.slice A nk ca) := (HBN.out.bel hG).cell 1
        have y2 : w1.cell? ⟨w.heap.size, 2, none⟩ = some (.slice B nk cb) := (HBN.out.bel hG).cell 2
        have y3 : w1.cell? ⟨w.heap.size, 3, none⟩ = some (.slice C nc cc) := (HBN.out.bel hG).cell 3
        go_simp
        exact hK.out _ _ hG rfl (fun _ _ _ h => h)
      · intro f w1 hG hF K hK
        have d11 : f 90 = .bool true := hF 11 (by kernel_rfl)
        clear hF
        rw [if_pos (by rw [wanted_val (g := 11) (d := 90) (b := true) (c := true) rfl (by kernel_rfl) (show some (f 90) = some (.bool true) from congrArg some d11)]; rfl)]
        dsimp only at hK ⊢
        generalize f 90 = v90 at *
        subst d11
        go_simp
        exact hK.out _ _ hG rfl (fun _ _ _ h => h)
      · intro f w1 hG hF K hK
        have d11 : f 90 = .bool true := hF 11 (by kernel_rfl)
        have d13 : f 92 = .agg #[.bool true, .slice A nk ca, .slice B nk cb, .slice C nc cc] := hF 13 (by kernel_rfl)
        have d14 : f 93 = .string x := hF 14 (by kernel_rfl)
        clear hF
        rw [if_pos (by rw [wanted_val (g := 11) (d := 90) (b := true) (c := true) rfl (by kernel_rfl) (show some (f 90) = some (.bool true) from congrArg some d11)]; rfl)]
        dsimp only at hK ⊢
        generalize f 90 = v90 at *
        generalize f 92 = v92 at *
        generalize f 93 = v93 at *
        subst d11
        subst d13
        subst d14
        go_simp
        refine (RU.out w1 (HND.out.bel hG)).mono ?_
        rintro e w20 ⟨⟨K2, V2, p2, q2, rfl, n2⟩, hb20⟩
        exact hK.out _ _ (hG.trans (hb20.mono hG.size)) ⟨K2, V2, p2, q2, rfl, n2⟩ (fun j _ _ h => lvF_bel hb20 j _ _ h)
      · intro f w1 hG hF K hK
        have d11 : f 90 = .bool true := hF 11 (by kernel_rfl)
        have d12 : f 91 = .agg #[.bool true, .slice Ku m2 cu1, .slice Vu m2 cu2, .slice none 0 0] := hF 12 (by kernel_rfl)
        obtain ⟨A15, B15, p15, q15, d15, n15⟩ : LfV UK UV m2 (f 94) w1 := hF 15 (by kernel_rfl)
        clear hF
        rw [if_pos (by rw [wanted_val (g := 11) (d := 90) (b := true) (c := true) rfl (by kernel_rfl) (show some (f 90) = some (.bool true) from congrArg some d11)]; rfl)]
        dsimp only at hK ⊢
        generalize f 90 = v90 at *
        generalize f 91 = v91 at *
        generalize f 94 = v94 at *
        subst d11
        subst d12
        subst d15
        go_simp
        refine (nsame_any true UK UV [] Ku Vu none A15 B15 none m2 cu1 m2 cu2 0 0 p15 q15 0 w1 (HNU.out.bel hG) n15).mono ?_
        rintro e w20 ⟨rfl, hb20⟩
        exact hK.out _ _ (hG.trans (hb20.mono hG.size)) rfl (fun j _ _ h => lvF_bel hb20 j _ _ h)
      · refine StepA.guarded rfl ?_
        intro f w1 hG hF K hK
        have d11 : f 90 = .bool true := hF 11 (by kernel_rfl)
        have d16 : f 95 = .bool true := hF 16 (by kernel_rfl)
        clear hF
        dsimp only at hK ⊢
        generalize f 90 = v90 at *
        generalize f 95 = v95 at *
        subst d11
        subst d16
        go_simp
        exact hK.out _ _ hG rfl (fun _ _ _ h => h)
      · refine StepA.guarded rfl ?_
        intro f w1 hG hF K hK
        have d17 : f 96 = .bool true := hF 17 (by kernel_rfl)
        clear hF
        dsimp only at hK ⊢
        generalize f 96 = v96 at *
        subst d17
        go_simp
        exact hK.out _ _ hG rfl (fun _ _ _ h => h)
      · intro f w1 hG hF K hK
        have d18 : f 97 = .bool true := hF 18 (by kernel_rfl)
        clear hF
        rw [if_pos (by rw [wanted_val (g := 18) (d := 97) (b := true) (c := true) rfl (by kernel_rfl) (show some (f 97) = some (.bool true) from congrArg some d18)]; rfl)]
        dsimp only at hK ⊢
        generalize f 97 = v97 at *
        subst d18
        have y0 : w1.cell? ⟨gX, 0, none⟩ = some (.bool true) := (HBX.out.bel hG).cell 0
        have y1 : w1.cell? ⟨gX, 1, none⟩ = some (.slice Ax nk cx1) := (HBX.out.bel hG).cell 1
        have y2 : w1.cell? ⟨gX, 2, none⟩ = some (.slice Bx nk cx2) := (HBX.out.bel hG).cell 2
        have y3 : w1.cell? ⟨gX, 3, none⟩ = some (.slice Cx nc cx3) := (HBX.out.bel hG).cell 3
        go_simp
        exact hK.out _ _ hG rfl (fun _ _ _ h => h)
      · intro f w1 hG hF K hK
        have d18 : f 97 = .bool true := hF 18 (by kernel_rfl)
        clear hF
        rw [if_pos (by rw [wanted_val (g := 18) (d := 97) (b := true) (c := true) rfl (by kernel_rfl) (show some (f 97) = some (.bool true) from congrArg some d18)]; rfl)]
        dsimp only at hK ⊢
        generalize f 97 = v97 at *
        subst d18
        have y0 : w1.cell? ⟨w.heap.size, 0, none⟩ = some (.bool true) := (HBN.out.bel hG).cell 0
        have y1 : w1.cell? ⟨w.heap.size, 1, none⟩ = some (.slice A nk ca) := (HBN.out.bel hG).cell 1
        have y2 : w1.cell? ⟨w.heap.size, 2, none⟩ = some (.slice B nk cb) := (HBN.out.bel hG).cell 2
        have y3 : w1.cell? ⟨w.heap.size, 3, none⟩ = some (.slice C nc cc) := (HBN.out.bel hG).cell 3
        go_simp
        exact hK.out _ _ hG rfl (fun _ _ _ h => h)
      · intro f w1 hG hF K hK
        have d18 : f 97 = .bool true := hF 18 (by kernel_rfl)
        have d19 : f 98 = .agg #[.bool true, .slice Ax nk cx1, .slice Bx nk cx2, .slice Cx nc cx3] := hF 19 (by kernel_rfl)
        have d20 : f 99 = .agg #[.bool true, .slice A nk ca, .slice B nk cb, .slice C nc cc] := hF 20 (by kernel_rfl)
        clear hF
        rw [if_pos (by rw [wanted_val (g := 18) (d := 97) (b := true) (c := true) rfl (by kernel_rfl) (show some (f 97) = some (.bool true) from congrArg some d18)]; rfl)]
        dsimp only at hK ⊢
        generalize f 97 = v97 at *
        generalize f 98 = v98 at *
        generalize f 99 = v99 at *
        subst d18
        subst d19
        subst d20
        go_simp
        refine (nsame_any true ks vs [] Ax Bx Cx A B C nk cx1 nk cx2 nc cx3 ca cb cc w1 (HNX.out.bel hG) (HND.out.bel hG)).mono ?_
        rintro e w20 ⟨rfl, hb20⟩
        exact hK.out _ _ (hG.trans (hb20.mono hG.size)) rfl (fun j _ _ h => lvF_bel hb20 j _ _ h)
      · refine StepA.guarded rfl ?_
        intro f w1 hG hF K hK
        have d18 : f 97 = .bool true := hF 18 (by kernel_rfl)
        have d21 : f 100 = .bool true := hF 21 (by kernel_rfl)
        clear hF
        dsimp only at hK ⊢
        generalize f 97 = v97 at *
        generalize f 100 = v100 at *
        subst d18
        subst d21
        go_simp
        exact hK.out _ _ hG rfl (fun _ _ _ h => h)
      · refine StepA.guarded rfl ?_
        intro f w1 hG hF K hK
        have d22 : f 101 = .bool true := hF 22 (by kernel_rfl)
        clear hF
        dsimp only at hK ⊢
        generalize f 101 = v101 at *
        subst d22
        go_simp
        exact hK.out _ _ hG rfl (fun _ _ _ h => h)
      intro f w20 hG hF
      have e23 : f 6 = .bool true := hF 23 (by decide)
      have HB20 := Lib.hid hG
      clear hF hG
      dsimp only
      generalize f 79 = v79
      generalize f 80 = v80
      generalize f 81 = v81
      generalize f 82 = v82
      generalize f 83 = v83
      generalize f 84 = v84
      generalize f 85 = v85
      generalize f 86 = v86
      generalize f 87 = v87
      generalize f 88 = v88
      generalize f 89 = v89
      generalize f 90 = v90
      generalize f 91 = v91
      generalize f 92 = v92
      generalize f 93 = v93
      generalize f 94 = v94
      generalize f 95 = v95
      generalize f 96 = v96
      generalize f 97 = v97
      generalize f 98 = v98
      generalize f 99 = v99
      generalize f 100 = v100
      generalize f 101 = v101
      generalize f 6 = v6 at *
      subst e23
      have BB := Lib.hid (HB8.out.trans (HB20.out.mono HB8.out.size))
      go_wp2_with fail
      go_ret
      exact ⟨rfl, BB.out⟩
end Go.Proofs.Ytcnfnfnmpifahaa
