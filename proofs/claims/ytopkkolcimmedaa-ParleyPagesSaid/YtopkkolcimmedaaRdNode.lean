/- A whole block is read as a node, or the reader gives up. Condition: the bytes lie in memory, apart from the reader. -/
import Derived.Test.YtopkkolcimmedaaRdNil
import Derived.Test.YtopkkolcimmedaaEncW
namespace Go.Proofs.Ytopkkolcimmedaa
open Go.RowKit

theorem mark_ok {l : List Nat} {n : NodeM} {r : List Nat} (hl : ∀ x ∈ l, x < 256) (h : markP l = some (n, r)) : n.keys.length ≤ 255 ∧ n.vals.length ≤ 255 ∧ n.kids.length ≤ 256 ∧ (∀ s ∈ n.keys, s.size < 256) ∧ (∀ s ∈ n.vals, s.size < 256) ∧ (∀ x ∈ r, x < 256) ∧ r.length ≤ l.length := by
  rcases l with _ | ⟨x, _ | ⟨c, l⟩⟩
  · cases h
  · unfold markP at h; split at h <;> first | cases h | (rename_i e; cases e)
  have hc : c < 256 := hl c (by simp)
  have hl2 : ∀ y ∈ l, y < 256 := fun y hy => hl y (by simp [hy])
  have hx : x = 1 ∨ x = 2 := by
    unfold markP at h
    split at h
    · rename_i e; injection e with e _; exact Or.inl e
    · rename_i e; injection e with e _; exact Or.inr e
    · cases h
  rcases hx with rfl | rfl
  · change (leafP c l).map _ = _ at h
    obtain ⟨⟨ks, vs, r'⟩, h3, h4⟩ := Option.map_eq_some_iff.1 h
    injection h4 with h4 h5
    subst h4
    dsimp only at h5
    subst h5
    obtain ⟨q1, q2, q3⟩ := leafP_of c l ks vs r' hl2 h3
    obtain ⟨z1, z2⟩ := leafP_sz c l ks vs r' hl2 h3
    refine ⟨by show ks.length ≤ 255; omega, by show vs.length ≤ 255; omega, by show 0 ≤ 256; omega, z1, z2, fun y hy => hl2 y (by rw [q1]; exact List.mem_append_right _ hy), ?_⟩
    rw [q1]; simp; omega
  · change (kidP l).bind _ = _ at h
    obtain ⟨⟨k0, l1⟩, h2, h⟩ := Option.bind_eq_some_iff.1 h
    obtain ⟨⟨ks, cs, r'⟩, h3, h4⟩ := Option.map_eq_some_iff.1 h
    injection h4 with h4 h5
    subst h4
    dsimp only at h5 h3
    subst h5
    obtain ⟨p1, _, _⟩ := kidP_of hl2 h2
    have hl3 : ∀ y ∈ l1, y < 256 := fun y hy => hl2 y (by rw [p1]; exact List.mem_append_right _ hy)
    obtain ⟨q1, q2, q3⟩ := branchP_of c l1 ks cs r' hl3 h3
    have z1 := branchP_sz c l1 ks cs r' hl3 h3
    refine ⟨by show ks.length ≤ 255; omega, by show 0 ≤ 255; omega, by show (k0 :: cs).length ≤ 256; simp; omega, z1, fun s hs => by simp at hs, fun y hy => hl3 y (by rw [q1]; exact List.mem_append_right _ hy), ?_⟩
    rw [p1, q1]; simp; omega
theorem mark_other {x c : Nat} {l : List Nat} (h1 : x ≠ 1) (h2 : x ≠ 2) : markP (x :: c :: l) = none :=
  match x, h1, h2 with
  | 0, _, _ => rfl
  | 1, h1, _ => absurd rfl h1
  | 2, _, h2 => absurd rfl h2
  | _ + 3, _, _ => rfl
/-- A block that holds no byte has changed. -/
theorem Rd.far {B : Nat} {w w' : World} {q g : Nat} {l : List Nat} {t : TypeId} {cs : Array Value} (h : Rd B w q l) (hb : Bk w g t cs) (hn : ∀ (i : Nat) (x : Int), cs[i]? ≠ some (.int .u8 x)) (k : Kept1 g w w') (hg : q ≠ g) : Rd B w' q l := by
  obtain ⟨A, c, h1, h2, h3, h4⟩ := h
  refine ⟨A, c, bk_kept h1 hg k, h2, fun hne => ?_, h4⟩
  obtain ⟨b, off, rfl, hl, hc⟩ := h3 hne
  have hpos : 0 < (u8s l).length := by
    rcases h : u8s l with _ | ⟨y, ys⟩
    · exact absurd h hne
    · simp
  have hbg : b ≠ g := by
    intro e
    subst e
    have h0 := hc 0 hpos
    rw [hb.cell, List.getElem?_eq_getElem hpos, u8s_get l 0 (by rw [u8s_length] at hpos; exact hpos)] at h0
    exact hn _ _ h0
  refine ⟨b, off, rfl, Nat.lt_of_lt_of_le hl k.size, fun i hi => ?_⟩
  rw [World.cell?_of_block (w := w) (a := ⟨b, off + i, none⟩) (k.block b hl hbg)]
  exact hc i hi
theorem node_noU8 (z0 : Bool) (A C D : Option Addr) (n1 n2 n3 c1 c2 c3 : Nat) : ∀ (i : Nat) (x : Int), (#[.bool z0, .slice A n1 c1, .slice C n2 c2, .slice D n3 c3] : Array Value)[i]? ≠ some (.int .u8 x) := by
  intro i x h
  match i with
  | 0 => cases h
  | 1 => cases h
  | 2 => cases h
  | 3 => cases h
  | k + 4 => simp at h
theorem size_small {n : NodeM} (h1 : n.keys.length ≤ 255) (h2 : ∀ s ∈ n.keys, s.size < 256) (h3 : ∀ s ∈ n.vals, s.size < 256) : sizeN n ≤ 4611686018427387904 := by
  have hk := sumN_le (n := n) (B := 515) (fun i => by have := keyN_le (n := n) (B := 256) (V := 256) (fun s hs => by have := h2 s hs; omega) (fun s hs => by have := h3 s hs; omega) i; omega) n.keys.length
  have hh : headN n.leaf ≤ 4 := by unfold headN; split <;> omega
  unfold sizeN
  have : n.keys.length * 515 ≤ 255 * 515 := Nat.mul_le_mul_right _ h1
  omega
theorem Rd.mono {B B' : Nat} {w : World} {q : Nat} {l : List Nat} (h : Rd B w q l) (hb : B ≤ B') : Rd B' w q l := by
  obtain ⟨A, c, h1, h2, h3, h4⟩ := h
  exact ⟨A, c, h1, h2, h3, fun a e => ⟨(h4 a e).1, Nat.lt_of_lt_of_le (h4 a e).2 hb⟩⟩
/-- What the reading of a block comes to. -/
def NdPost (w0 : World) (q : Nat) (P : Option NodeM) (e : Ending) (w' : World) : Prop :=
  KQ q w0 w' ∧ match P with
  | none => e = .panicked brokenE
  | some n => ∃ A C D ca cb cc, e = .returned (.agg #[.bool n.leaf, .slice A n.keys.length ca, .slice C n.vals.length cb, .slice D n.kids.length cc]) ∧ Nd w' n A C D n.keys.length ca n.vals.length cb n.kids.length cc ∧ (∀ a, A = some a → w0.heap.size ≤ a.block) ∧ (∀ a, C = some a → w0.heap.size ≤ a.block) ∧ (∀ a, D = some a → w0.heap.size ≤ a.block)
theorem checkN_cases (n : NodeM) : checkN n = 0 ∨ checkN n = 2 ∨ checkN n = 4 := by
  unfold checkN
  split
  · exact Or.inr (Or.inr rfl)
  · split
    · exact Or.inr (Or.inl rfl)
    · exact Or.inl rfl
theorem checkN_zero {n : NodeM} : checkN n = 0 ↔ formB n = true ∧ sizeN n ≤ 256 := by
  unfold checkN
  constructor
  · intro h
    split at h
    · cases h
    · rename_i h1
      split at h
      · cases h
      · rename_i h2
        exact ⟨by simpa using h1, by omega⟩
  · rintro ⟨h1, h2⟩
    rw [if_neg (by rw [h1]; decide), if_neg (by omega)]
theorem nd_kept {w w' : World} {n : NodeM} {A C D : Option Addr} {nk ca nv cb nc cc g : Nat} (h : Nd w n A C D nk ca nv cb nc cc) (k : Kept1 g w w') (fA : ∀ a, A = some a → a.block ≠ g) (fC : ∀ a, C = some a → a.block ≠ g) (fD : ∀ a, D = some a → a.block ≠ g) : Nd w' n A C D nk ca nv cb nc cc :=
  ⟨h.ek, h.ev, h.ec, h.sk.kept k fA, h.sv.kept k fC, h.sc.kept k fD, h.bk, h.bv, h.bc, h.ka, h.va, h.na, h.zk, h.zv⟩
set_option maxRecDepth 100000 in
set_option maxHeartbeats 4000000 in
theorem node_any (q x c : Nat) (l1 : List Nat) (w : World) (h : Rd w.heap.size w q (x :: c :: l1)) (hl : ∀ y ∈ x :: c :: l1, y < 256) (hlen : l1.length ≤ 1000) :
    Calls Try.prog 30 #[.pointer (some ⟨q, 0, none⟩)] w (NdPost w q (nodeP (x :: c :: l1))) := by
  have hq := h.lt
  have hx := hl x (by simp)
  have HL := Lib.hid hl
  have HL2 := Lib.hid (show ∀ y ∈ c :: l1, y < 256 from fun y hy => hl y (List.mem_cons_of_mem _ hy))
  obtain ⟨PB, hPB⟩ : ∃ PB : Option NodeM, PB = nodeP (x :: c :: l1) := ⟨_, rfl⟩
  rw [← hPB]
  have HPB := Lib.hid hPB
  obtain ⟨wa, hwa⟩ : ∃ wa, wa = w.alloc (.cells #[.bool false, .slice none 0 0, .slice none 0 0, .slice none 0 0] 30) := ⟨_, rfl⟩
  obtain ⟨wb, hwb⟩ : ∃ wb, wb = wa.alloc (.cells #[.bool false, .slice none 0 0, .slice none 0 0, .slice none 0 0] 30) := ⟨_, rfl⟩
  have hsa : wa.heap.size = w.heap.size + 1 := by rw [hwa]; simp
  have hsb : wb.heap.size = w.heap.size + 2 := by rw [hwb]; simp [hsa]
  have Ba : Below w.heap.size w wa := by rw [hwa]; exact (Below.refl _ _).alloc (Nat.le_refl _) _
  have Bb : Below w.heap.size w wb := by rw [hwb]; exact Ba.alloc (by omega) _
  have X1 : Bk wb w.heap.size 30 #[.bool false, .slice none 0 0, .slice none 0 0, .slice none 0 0] := by rw [hwb, hwa]; exact (Bk.new w _ _).alloc _
  have X2 : Bk wb (w.heap.size + 1) 30 #[.bool false, .slice none 0 0, .slice none 0 0, .slice none 0 0] := by rw [hwb, ← hsa]; exact Bk.new wa _ _
  have HT := Lib.hid (number_ok q x (c :: l1) hx wb (h.bel Bb))
  have HX1 := Lib.hid X1
  have HX2 := Lib.hid X2
  have HBb := Lib.hid (KQ.of_below hq Bb)
  have HWA := Lib.hid hwa
  have HWB := Lib.hid hwb
  clear h hl X1 X2 Ba Bb hwa hwb hsa hPB
  go_enter Try.func30, Try.ntmps30
  go_upto_region 2 with fail
  rw [← HWA.out, ← HWB.out]
  go_wp2_with fail
  refine HT.out.mono ?_
  rintro e w1 ⟨rfl, hr, hk⟩
  have hx1 : Bk w1 w.heap.size 30 #[.bool false, .slice none 0 0, .slice none 0 0, .slice none 0 0] := bk_kept HX1.out (by omega) hk.kept
  have hx2 : Bk w1 (w.heap.size + 1) 30 #[.bool false, .slice none 0 0, .slice none 0 0, .slice none 0 0] := bk_kept HX2.out (by omega) hk.kept
  have hs1 : w.heap.size + 2 ≤ w1.heap.size := by have := hk.kept.size; omega
  have HK1 := Lib.hid (HBb.out.trans hk)
  have HR1 := Lib.hid (hr.mono (B' := w1.heap.size) (by omega))
  have HX1 := Lib.hid hx1
  have HX2 := Lib.hid hx2
  clear hr hk hx1 hx2 HT HBb HWA HWB hsb
  by_cases e1 : x = 1
  · subst e1
    rw [show ((1 : Nat) : Int) = 1 from rfl]
    have HC := Lib.hid (show Calls Try.prog 46 #[.pointer (some ⟨q, 0, none⟩)] w1 (RdPost w1.heap.size w1 q (markP (1 :: c :: l1))) from leaf_any q c l1 w1 HR1.out HL2.out)
    go_wp2_with fail
    refine HC.out.mono ?_
    rintro e w2 hpost
    cases hm : markP (1 :: c :: l1) with
    | none =>
      rw [hm] at hpost
      obtain ⟨hk, rfl⟩ := hpost
      exact ⟨rfl, HK1.out.trans hk, by rw [HPB.out]; unfold nodeP; rw [hm]; rfl⟩
    | some p =>
      obtain ⟨n, r⟩ := p
      rw [hm] at hpost
      obtain ⟨hk, A, C, D, ca, cb, cc, rfl, sA, sC, sD, fA, fC, fD, bA, bC, bD, hr⟩ := hpost
      obtain ⟨m1, m2, m3, m4, m5, m6, m7⟩ := mark_ok HL.out hm
      have m7 : r.length ≤ 2000 := by simp at m7; omega
      have HPN := Lib.hid (show PB = if formB n = true ∧ sizeN n ≤ 256 ∧ nilB r = true then some n else none by rw [HPB.out]; unfold nodeP; rw [hm]; rfl)
      have HSZ := Lib.hid (size_small m1 m4 m5)
      have hN2 : Nd w2 n A C D n.keys.length ca n.vals.length cb n.kids.length cc := ⟨rfl, rfl, rfl, sA, sC, sD, by omega, by omega, by omega, bA, bC, bD, fun s hs => by have := m4 s hs; omega, fun s hs => by have := m5 s hs; omega⟩
      have hx1 : Bk w2 w.heap.size 30 #[.bool false, .slice none 0 0, .slice none 0 0, .slice none 0 0] := bk_kept HX1.out (by omega) hk.kept
      have hx2 : Bk w2 (w.heap.size + 1) 30 #[.bool false, .slice none 0 0, .slice none 0 0, .slice none 0 0] := bk_kept HX2.out (by omega) hk.kept
      have SETA : ∀ w', w' = (((w2.setCell ⟨w.heap.size + 1, 0, none⟩ (.bool n.leaf)).setCell ⟨w.heap.size + 1, 1, none⟩ (.slice A n.keys.length ca)).setCell ⟨w.heap.size + 1, 2, none⟩ (.slice C n.vals.length cb)).setCell ⟨w.heap.size + 1, 3, none⟩ (.slice D n.kids.length cc) → KQ q w w' ∧ Bk w' w.heap.size 30 #[.bool false, .slice none 0 0, .slice none 0 0, .slice none 0 0] ∧ Bk w' (w.heap.size + 1) 30 #[.bool n.leaf, .slice A n.keys.length ca, .slice C n.vals.length cb, .slice D n.kids.length cc] ∧ Rd w1.heap.size w' q r ∧ Nd w' n A C D n.keys.length ca n.vals.length cb n.kids.length cc := by
        intro w' hw
        have k1 : Kept1 (w.heap.size + 1) w2 w' := by
          rw [hw]
          exact (((Kept1.set w2 _ _ _).trans (Kept1.set _ _ _ _)).trans (Kept1.set _ _ _ _)).trans (Kept1.set _ _ _ _)
        have hb : Below (w.heap.size + 1) w2 w' := by
          rw [hw]
          exact ((((Below.refl (w.heap.size + 1) w2).setCell (p := ⟨w.heap.size + 1, 0, none⟩) (Nat.le_refl _) _).setCell (p := ⟨w.heap.size + 1, 1, none⟩) (Nat.le_refl _) _).setCell (p := ⟨w.heap.size + 1, 2, none⟩) (Nat.le_refl _) _).setCell (p := ⟨w.heap.size + 1, 3, none⟩) (Nat.le_refl _) _
        have kq := HK1.out.trans hk
        refine ⟨⟨kq.bel.trans (hb.mono (by omega)), ⟨Nat.le_trans kq.kept.size k1.size, fun b hlt hn => ?_⟩⟩, bk_kept hx1 (by omega) k1, ?_, hr.far hx2 (node_noU8 _ _ _ _ _ _ _ _ _ _) k1 (by omega), nd_kept hN2 k1 (fun a e => by have := fA a e; omega) (fun a e => by have := fC a e; omega) (fun a e => by have := fD a e; omega)⟩
        · rw [k1.block b (Nat.lt_of_lt_of_le hlt kq.kept.size) (by omega)]
          exact kq.kept.block b hlt hn
        · rw [hw]
          exact (((hx2.put 0 (.bool n.leaf)).put 1 (.slice A n.keys.length ca)).put 2 (.slice C n.vals.length cb)).put 3 (.slice D n.kids.length cc)
      have HSA := Lib.hid SETA
      have HM6 := Lib.hid m6
      have HfA := Lib.hid fA
      have HfC := Lib.hid fC
      have HfD := Lib.hid fD
      have u0 : w2.cell? ⟨w.heap.size + 1, 0, none⟩ = some (.bool false) := (hx2).cell 0
      have u1 : w2.cell? ⟨w.heap.size + 1, 1, none⟩ = some (.slice none 0 0) := (hx2).cell 1
      have u2 : w2.cell? ⟨w.heap.size + 1, 2, none⟩ = some (.slice none 0 0) := (hx2).cell 2
      have u3 : w2.cell? ⟨w.heap.size + 1, 3, none⟩ = some (.slice none 0 0) := (hx2).cell 3
      have v0 := (hx2).frozen 0
      have v1 := (hx2).frozen 1
      have v2 := (hx2).frozen 2
      have v3 := (hx2).frozen 3
      clear hx2
      clear SETA sA sC sD fA fC fD hr hk m1 m2 m3 m4 m5 m6 hN2 hx1 hm HC
      go_upto_region 8 with fail
      generalize hw3 : (((w2.setCell ⟨w.heap.size + 1, 0, none⟩ (.bool n.leaf)).setCell ⟨w.heap.size + 1, 1, none⟩ (.slice A n.keys.length ca)).setCell ⟨w.heap.size + 1, 2, none⟩ (.slice C n.vals.length cb)).setCell ⟨w.heap.size + 1, 3, none⟩ (.slice D n.kids.length cc) = w3
      obtain ⟨k3, z3, y3, r3, n3⟩ := HSA.out w3 hw3.symm
      clear hw3
      have y30 : w3.cell? ⟨w.heap.size + 1, 0, none⟩ = some (.bool n.leaf) := (y3).cell 0
      have y31 : w3.cell? ⟨w.heap.size + 1, 1, none⟩ = some (.slice A n.keys.length ca) := (y3).cell 1
      have y32 : w3.cell? ⟨w.heap.size + 1, 2, none⟩ = some (.slice C n.vals.length cb) := (y3).cell 2
      have y33 : w3.cell? ⟨w.heap.size + 1, 3, none⟩ = some (.slice D n.kids.length cc) := (y3).cell 3
      have HK3 := Lib.hid k3
      have HZ3 := Lib.hid z3
      have HY3 := Lib.hid y3
      have HR3 := Lib.hid r3
      have HN3 := Lib.hid n3
      have hb3 : w.heap.size + 1 < w3.heap.size := y3.lt
      have HCK := check_any n A C D n.keys.length ca n.vals.length cb n.kids.length cc w3 n3 HSZ.out
      clear k3 z3 y3 r3 n3 u0 v0 u1 v1 u2 v2 u3 v3
      rcases checkN_cases n with hcn | hcn | hcn
      · have HOK := Lib.hid (checkN_zero.1 hcn)
        rw [hcn, show ((0 : Nat) : Int) = 0 from rfl] at HCK
        have HCK := Lib.hid HCK
        clear hcn
        go_wp2_with fail
        refine HCK.out.mono ?_
        rintro e w4 ⟨rfl, b4⟩
        obtain ⟨A4, c4, h41, h42, h43, h44⟩ := HR3.out.bel b4
        have yl : w4.cell? ⟨q, 0, none⟩ = some (.slice A4 r.length c4) := h41.cell 0
        have HCN := Lib.hid (contains_nil r A4 r.length c4 rfl (by omega) HM6.out w4 h43)
        have HK4 := Lib.hid (HK3.out.trans (KQ.of_below (by omega) b4))
        have HY4 := Lib.hid (HY3.out.bel b4)
        have HZ4 := Lib.hid (HZ3.out.bel b4)
        have HN4 := Lib.hid (HN3.out.bel b4)
        clear b4 h41 h42 h43 h44 y30 y31 y32 y33
        obtain ⟨vb, hvb⟩ : ∃ vb, vb = nilB r := ⟨_, rfl⟩
        rw [← hvb] at HCN
        cases vb with
        | false =>
          have HPost := Lib.hid (show ∀ w', KQ q w w' → NdPost w q PB (.panicked brokenE) w' from fun w' hk => ⟨hk, by rw [HPN.out, if_neg (by rw [← hvb]; simp)]⟩)
          clear hvb
          go_wp2_with fail
          refine HCN.out.mono ?_
          rintro e w5 ⟨rfl, rfl⟩
          go_wp2_with fail
          exact ⟨rfl, HPost.out _ HK4.out⟩
        | true =>
          have HPQ := Lib.hid (show PB = some n by rw [HPN.out, if_pos ⟨HOK.out.1, HOK.out.2, hvb.symm⟩])
          clear hvb
          go_wp2_with fail
          refine HCN.out.mono ?_
          rintro e w5 ⟨rfl, rfl⟩
          have x40 : w4.cell? ⟨w.heap.size + 1, 0, none⟩ = some (.bool n.leaf) := (HY4.out).cell 0
          have x41 : w4.cell? ⟨w.heap.size + 1, 1, none⟩ = some (.slice A n.keys.length ca) := (HY4.out).cell 1
          have x42 : w4.cell? ⟨w.heap.size + 1, 2, none⟩ = some (.slice C n.vals.length cb) := (HY4.out).cell 2
          have x43 : w4.cell? ⟨w.heap.size + 1, 3, none⟩ = some (.slice D n.kids.length cc) := (HY4.out).cell 3
          have u40 : w4.cell? ⟨w.heap.size, 0, none⟩ = some (.bool false) := (HZ4.out).cell 0
          have u41 : w4.cell? ⟨w.heap.size, 1, none⟩ = some (.slice none 0 0) := (HZ4.out).cell 1
          have u42 : w4.cell? ⟨w.heap.size, 2, none⟩ = some (.slice none 0 0) := (HZ4.out).cell 2
          have u43 : w4.cell? ⟨w.heap.size, 3, none⟩ = some (.slice none 0 0) := (HZ4.out).cell 3
          have v40 := (HZ4.out).frozen 0
          have v41 := (HZ4.out).frozen 1
          have v42 := (HZ4.out).frozen 2
          have v43 := (HZ4.out).frozen 3
          have SETB : ∀ w', w' = (((w4.setCell ⟨w.heap.size, 0, none⟩ (.bool n.leaf)).setCell ⟨w.heap.size, 1, none⟩ (.slice A n.keys.length ca)).setCell ⟨w.heap.size, 2, none⟩ (.slice C n.vals.length cb)).setCell ⟨w.heap.size, 3, none⟩ (.slice D n.kids.length cc) → KQ q w w' ∧ Bk w' w.heap.size 30 #[.bool n.leaf, .slice A n.keys.length ca, .slice C n.vals.length cb, .slice D n.kids.length cc] ∧ Nd w' n A C D n.keys.length ca n.vals.length cb n.kids.length cc := by
            intro w' hw
            have k1 : Kept1 w.heap.size w4 w' := by
              rw [hw]
              exact (((Kept1.set w4 _ _ _).trans (Kept1.set _ _ _ _)).trans (Kept1.set _ _ _ _)).trans (Kept1.set _ _ _ _)
            have hb : Below w.heap.size w4 w' := by
              rw [hw]
              exact ((((Below.refl w.heap.size w4).setCell (p := ⟨w.heap.size, 0, none⟩) (Nat.le_refl _) _).setCell (p := ⟨w.heap.size, 1, none⟩) (Nat.le_refl _) _).setCell (p := ⟨w.heap.size, 2, none⟩) (Nat.le_refl _) _).setCell (p := ⟨w.heap.size, 3, none⟩) (Nat.le_refl _) _
            refine ⟨⟨HK4.out.bel.trans (hb.mono (by omega)), ⟨Nat.le_trans HK4.out.kept.size k1.size, fun b hlt hn => ?_⟩⟩, ?_, nd_kept HN4.out k1 (fun a e => by have := HfA.out a e; omega) (fun a e => by have := HfC.out a e; omega) (fun a e => by have := HfD.out a e; omega)⟩
            · rw [k1.block b (Nat.lt_of_lt_of_le hlt HK4.out.kept.size) (by omega)]
              exact HK4.out.kept.block b hlt hn
            · rw [hw]
              exact (((HZ4.out.put 0 (.bool n.leaf)).put 1 (.slice A n.keys.length ca)).put 2 (.slice C n.vals.length cb)).put 3 (.slice D n.kids.length cc)
          have HSB := Lib.hid SETB
          clear SETB
          go_wp2_with fail
          generalize hwf : (((w4.setCell ⟨w.heap.size, 0, none⟩ (.bool n.leaf)).setCell ⟨w.heap.size, 1, none⟩ (.slice A n.keys.length ca)).setCell ⟨w.heap.size, 2, none⟩ (.slice C n.vals.length cb)).setCell ⟨w.heap.size, 3, none⟩ (.slice D n.kids.length cc) = wf
          obtain ⟨g1, g2, g3⟩ := HSB.out wf hwf.symm
          clear hwf
          have s0 : wf.cell? ⟨w.heap.size, 0, none⟩ = some (.bool n.leaf) := (g2).cell 0
          have s1 : wf.cell? ⟨w.heap.size, 1, none⟩ = some (.slice A n.keys.length ca) := (g2).cell 1
          have s2 : wf.cell? ⟨w.heap.size, 2, none⟩ = some (.slice C n.vals.length cb) := (g2).cell 2
          have s3 : wf.cell? ⟨w.heap.size, 3, none⟩ = some (.slice D n.kids.length cc) := (g2).cell 3
          refine bodyPost_ret (v := .agg #[.bool n.leaf, .slice A n.keys.length ca, .slice C n.vals.length cb, .slice D n.kids.length cc]) (by simp [results, Try.results30, go_sem, s0, s1, s2, s3]) rfl ⟨g1, ?_⟩
          rw [HPQ.out]
          exact ⟨A, C, D, ca, cb, cc, rfl, g3, fun a e => by have := HfA.out a e; omega, fun a e => by have := HfC.out a e; omega, fun a e => by have := HfD.out a e; omega⟩
      · have HPost := Lib.hid (show ∀ w', KQ q w w' → NdPost w q PB (.panicked brokenE) w' from fun w' hk => ⟨hk, by rw [HPN.out, if_neg (fun h => by have := checkN_zero.2 ⟨h.1, h.2.1⟩; omega)]⟩)
        rw [hcn, show ((2 : Nat) : Int) = 2 from rfl] at HCK
        have HCK := Lib.hid HCK
        clear hcn
        go_wp2_with fail
        refine HCK.out.mono ?_
        rintro e w4 ⟨rfl, b4⟩
        have HK4 := Lib.hid (HK3.out.trans (KQ.of_below (by omega) b4))
        clear b4
        go_wp2_with fail
        exact ⟨rfl, HPost.out _ HK4.out⟩
      · have HPost := Lib.hid (show ∀ w', KQ q w w' → NdPost w q PB (.panicked brokenE) w' from fun w' hk => ⟨hk, by rw [HPN.out, if_neg (fun h => by have := checkN_zero.2 ⟨h.1, h.2.1⟩; omega)]⟩)
        rw [hcn, show ((4 : Nat) : Int) = 4 from rfl] at HCK
        have HCK := Lib.hid HCK
        clear hcn
        go_wp2_with fail
        refine HCK.out.mono ?_
        rintro e w4 ⟨rfl, b4⟩
        have HK4 := Lib.hid (HK3.out.trans (KQ.of_below (by omega) b4))
        clear b4
        go_wp2_with fail
        exact ⟨rfl, HPost.out _ HK4.out⟩
  · by_cases e2 : x = 2
    · subst e2
      rw [show ((2 : Nat) : Int) = 2 from rfl]
      have HC := Lib.hid (show Calls Try.prog 47 #[.pointer (some ⟨q, 0, none⟩)] w1 (RdPost w1.heap.size w1 q (markP (2 :: c :: l1))) from branch_any q c l1 w1 HR1.out HL2.out)
      go_wp2_with fail
      refine HC.out.mono ?_
      rintro e w2 hpost
      cases hm : markP (2 :: c :: l1) with
      | none =>
        rw [hm] at hpost
        obtain ⟨hk, rfl⟩ := hpost
        exact ⟨rfl, HK1.out.trans hk, by rw [HPB.out]; unfold nodeP; rw [hm]; rfl⟩
      | some p =>
        obtain ⟨n, r⟩ := p
        rw [hm] at hpost
        obtain ⟨hk, A, C, D, ca, cb, cc, rfl, sA, sC, sD, fA, fC, fD, bA, bC, bD, hr⟩ := hpost
        obtain ⟨m1, m2, m3, m4, m5, m6, m7⟩ := mark_ok HL.out hm
        have m7 : r.length ≤ 2000 := by simp at m7; omega
        have HPN := Lib.hid (show PB = if formB n = true ∧ sizeN n ≤ 256 ∧ nilB r = true then some n else none by rw [HPB.out]; unfold nodeP; rw [hm]; rfl)
        have HSZ := Lib.hid (size_small m1 m4 m5)
        have hN2 : Nd w2 n A C D n.keys.length ca n.vals.length cb n.kids.length cc := ⟨rfl, rfl, rfl, sA, sC, sD, by omega, by omega, by omega, bA, bC, bD, fun s hs => by have := m4 s hs; omega, fun s hs => by have := m5 s hs; omega⟩
        have hx1 : Bk w2 w.heap.size 30 #[.bool false, .slice none 0 0, .slice none 0 0, .slice none 0 0] := bk_kept HX1.out (by omega) hk.kept
        have hx2 : Bk w2 (w.heap.size + 1) 30 #[.bool false, .slice none 0 0, .slice none 0 0, .slice none 0 0] := bk_kept HX2.out (by omega) hk.kept
        have SETA : ∀ w', w' = (((w2.setCell ⟨w.heap.size + 1, 0, none⟩ (.bool n.leaf)).setCell ⟨w.heap.size + 1, 1, none⟩ (.slice A n.keys.length ca)).setCell ⟨w.heap.size + 1, 2, none⟩ (.slice C n.vals.length cb)).setCell ⟨w.heap.size + 1, 3, none⟩ (.slice D n.kids.length cc) → KQ q w w' ∧ Bk w' w.heap.size 30 #[.bool false, .slice none 0 0, .slice none 0 0, .slice none 0 0] ∧ Bk w' (w.heap.size + 1) 30 #[.bool n.leaf, .slice A n.keys.length ca, .slice C n.vals.length cb, .slice D n.kids.length cc] ∧ Rd w1.heap.size w' q r ∧ Nd w' n A C D n.keys.length ca n.vals.length cb n.kids.length cc := by
          intro w' hw
          have k1 : Kept1 (w.heap.size + 1) w2 w' := by
            rw [hw]
            exact (((Kept1.set w2 _ _ _).trans (Kept1.set _ _ _ _)).trans (Kept1.set _ _ _ _)).trans (Kept1.set _ _ _ _)
          have hb : Below (w.heap.size + 1) w2 w' := by
            rw [hw]
            exact ((((Below.refl (w.heap.size + 1) w2).setCell (p := ⟨w.heap.size + 1, 0, none⟩) (Nat.le_refl _) _).setCell (p := ⟨w.heap.size + 1, 1, none⟩) (Nat.le_refl _) _).setCell (p := ⟨w.heap.size + 1, 2, none⟩) (Nat.le_refl _) _).setCell (p := ⟨w.heap.size + 1, 3, none⟩) (Nat.le_refl _) _
          have kq := HK1.out.trans hk
          refine ⟨⟨kq.bel.trans (hb.mono (by omega)), ⟨Nat.le_trans kq.kept.size k1.size, fun b hlt hn => ?_⟩⟩, bk_kept hx1 (by omega) k1, ?_, hr.far hx2 (node_noU8 _ _ _ _ _ _ _ _ _ _) k1 (by omega), nd_kept hN2 k1 (fun a e => by have := fA a e; omega) (fun a e => by have := fC a e; omega) (fun a e => by have := fD a e; omega)⟩
          · rw [k1.block b (Nat.lt_of_lt_of_le hlt kq.kept.size) (by omega)]
            exact kq.kept.block b hlt hn
          · rw [hw]
            exact (((hx2.put 0 (.bool n.leaf)).put 1 (.slice A n.keys.length ca)).put 2 (.slice C n.vals.length cb)).put 3 (.slice D n.kids.length cc)
        have HSA := Lib.hid SETA
        have HM6 := Lib.hid m6
        have HfA := Lib.hid fA
        have HfC := Lib.hid fC
        have HfD := Lib.hid fD
        have u0 : w2.cell? ⟨w.heap.size + 1, 0, none⟩ = some (.bool false) := (hx2).cell 0
        have u1 : w2.cell? ⟨w.heap.size + 1, 1, none⟩ = some (.slice none 0 0) := (hx2).cell 1
        have u2 : w2.cell? ⟨w.heap.size + 1, 2, none⟩ = some (.slice none 0 0) := (hx2).cell 2
        have u3 : w2.cell? ⟨w.heap.size + 1, 3, none⟩ = some (.slice none 0 0) := (hx2).cell 3
        have v0 := (hx2).frozen 0
        have v1 := (hx2).frozen 1
        have v2 := (hx2).frozen 2
        have v3 := (hx2).frozen 3
        clear hx2
        clear SETA sA sC sD fA fC fD hr hk m1 m2 m3 m4 m5 m6 hN2 hx1 hm HC
        go_upto_region 8 with fail
        generalize hw3 : (((w2.setCell ⟨w.heap.size + 1, 0, none⟩ (.bool n.leaf)).setCell ⟨w.heap.size + 1, 1, none⟩ (.slice A n.keys.length ca)).setCell ⟨w.heap.size + 1, 2, none⟩ (.slice C n.vals.length cb)).setCell ⟨w.heap.size + 1, 3, none⟩ (.slice D n.kids.length cc) = w3
        obtain ⟨k3, z3, y3, r3, n3⟩ := HSA.out w3 hw3.symm
        clear hw3
        have y30 : w3.cell? ⟨w.heap.size + 1, 0, none⟩ = some (.bool n.leaf) := (y3).cell 0
        have y31 : w3.cell? ⟨w.heap.size + 1, 1, none⟩ = some (.slice A n.keys.length ca) := (y3).cell 1
        have y32 : w3.cell? ⟨w.heap.size + 1, 2, none⟩ = some (.slice C n.vals.length cb) := (y3).cell 2
        have y33 : w3.cell? ⟨w.heap.size + 1, 3, none⟩ = some (.slice D n.kids.length cc) := (y3).cell 3
        have HK3 := Lib.hid k3
        have HZ3 := Lib.hid z3
        have HY3 := Lib.hid y3
        have HR3 := Lib.hid r3
        have HN3 := Lib.hid n3
        have hb3 : w.heap.size + 1 < w3.heap.size := y3.lt
        have HCK := check_any n A C D n.keys.length ca n.vals.length cb n.kids.length cc w3 n3 HSZ.out
        clear k3 z3 y3 r3 n3 u0 v0 u1 v1 u2 v2 u3 v3
        rcases checkN_cases n with hcn | hcn | hcn
        · have HOK := Lib.hid (checkN_zero.1 hcn)
          rw [hcn, show ((0 : Nat) : Int) = 0 from rfl] at HCK
          have HCK := Lib.hid HCK
          clear hcn
          go_wp2_with fail
          refine HCK.out.mono ?_
          rintro e w4 ⟨rfl, b4⟩
          obtain ⟨A4, c4, h41, h42, h43, h44⟩ := HR3.out.bel b4
          have yl : w4.cell? ⟨q, 0, none⟩ = some (.slice A4 r.length c4) := h41.cell 0
          have HCN := Lib.hid (contains_nil r A4 r.length c4 rfl (by omega) HM6.out w4 h43)
          have HK4 := Lib.hid (HK3.out.trans (KQ.of_below (by omega) b4))
          have HY4 := Lib.hid (HY3.out.bel b4)
          have HZ4 := Lib.hid (HZ3.out.bel b4)
          have HN4 := Lib.hid (HN3.out.bel b4)
          clear b4 h41 h42 h43 h44 y30 y31 y32 y33
          obtain ⟨vb, hvb⟩ : ∃ vb, vb = nilB r := ⟨_, rfl⟩
          rw [← hvb] at HCN
          cases vb with
          | false =>
            have HPost := Lib.hid (show ∀ w', KQ q w w' → NdPost w q PB (.panicked brokenE) w' from fun w' hk => ⟨hk, by rw [HPN.out, if_neg (by rw [← hvb]; simp)]⟩)
            clear hvb
            go_wp2_with fail
            refine HCN.out.mono ?_
            rintro e w5 ⟨rfl, rfl⟩
            go_wp2_with fail
            exact ⟨rfl, HPost.out _ HK4.out⟩
          | true =>
            have HPQ := Lib.hid (show PB = some n by rw [HPN.out, if_pos ⟨HOK.out.1, HOK.out.2, hvb.symm⟩])
            clear hvb
            go_wp2_with fail
            refine HCN.out.mono ?_
            rintro e w5 ⟨rfl, rfl⟩
            have x40 : w4.cell? ⟨w.heap.size + 1, 0, none⟩ = some (.bool n.leaf) := (HY4.out).cell 0
            have x41 : w4.cell? ⟨w.heap.size + 1, 1, none⟩ = some (.slice A n.keys.length ca) := (HY4.out).cell 1
            have x42 : w4.cell? ⟨w.heap.size + 1, 2, none⟩ = some (.slice C n.vals.length cb) := (HY4.out).cell 2
            have x43 : w4.cell? ⟨w.heap.size + 1, 3, none⟩ = some (.slice D n.kids.length cc) := (HY4.out).cell 3
            have u40 : w4.cell? ⟨w.heap.size, 0, none⟩ = some (.bool false) := (HZ4.out).cell 0
            have u41 : w4.cell? ⟨w.heap.size, 1, none⟩ = some (.slice none 0 0) := (HZ4.out).cell 1
            have u42 : w4.cell? ⟨w.heap.size, 2, none⟩ = some (.slice none 0 0) := (HZ4.out).cell 2
            have u43 : w4.cell? ⟨w.heap.size, 3, none⟩ = some (.slice none 0 0) := (HZ4.out).cell 3
            have v40 := (HZ4.out).frozen 0
            have v41 := (HZ4.out).frozen 1
            have v42 := (HZ4.out).frozen 2
            have v43 := (HZ4.out).frozen 3
            have SETB : ∀ w', w' = (((w4.setCell ⟨w.heap.size, 0, none⟩ (.bool n.leaf)).setCell ⟨w.heap.size, 1, none⟩ (.slice A n.keys.length ca)).setCell ⟨w.heap.size, 2, none⟩ (.slice C n.vals.length cb)).setCell ⟨w.heap.size, 3, none⟩ (.slice D n.kids.length cc) → KQ q w w' ∧ Bk w' w.heap.size 30 #[.bool n.leaf, .slice A n.keys.length ca, .slice C n.vals.length cb, .slice D n.kids.length cc] ∧ Nd w' n A C D n.keys.length ca n.vals.length cb n.kids.length cc := by
              intro w' hw
              have k1 : Kept1 w.heap.size w4 w' := by
                rw [hw]
                exact (((Kept1.set w4 _ _ _).trans (Kept1.set _ _ _ _)).trans (Kept1.set _ _ _ _)).trans (Kept1.set _ _ _ _)
              have hb : Below w.heap.size w4 w' := by
                rw [hw]
                exact ((((Below.refl w.heap.size w4).setCell (p := ⟨w.heap.size, 0, none⟩) (Nat.le_refl _) _).setCell (p := ⟨w.heap.size, 1, none⟩) (Nat.le_refl _) _).setCell (p := ⟨w.heap.size, 2, none⟩) (Nat.le_refl _) _).setCell (p := ⟨w.heap.size, 3, none⟩) (Nat.le_refl _) _
              refine ⟨⟨HK4.out.bel.trans (hb.mono (by omega)), ⟨Nat.le_trans HK4.out.kept.size k1.size, fun b hlt hn => ?_⟩⟩, ?_, nd_kept HN4.out k1 (fun a e => by have := HfA.out a e; omega) (fun a e => by have := HfC.out a e; omega) (fun a e => by have := HfD.out a e; omega)⟩
              · rw [k1.block b (Nat.lt_of_lt_of_le hlt HK4.out.kept.size) (by omega)]
                exact HK4.out.kept.block b hlt hn
              · rw [hw]
                exact (((HZ4.out.put 0 (.bool n.leaf)).put 1 (.slice A n.keys.length ca)).put 2 (.slice C n.vals.length cb)).put 3 (.slice D n.kids.length cc)
            have HSB := Lib.hid SETB
            clear SETB
            go_wp2_with fail
            generalize hwf : (((w4.setCell ⟨w.heap.size, 0, none⟩ (.bool n.leaf)).setCell ⟨w.heap.size, 1, none⟩ (.slice A n.keys.length ca)).setCell ⟨w.heap.size, 2, none⟩ (.slice C n.vals.length cb)).setCell ⟨w.heap.size, 3, none⟩ (.slice D n.kids.length cc) = wf
            obtain ⟨g1, g2, g3⟩ := HSB.out wf hwf.symm
            clear hwf
            have s0 : wf.cell? ⟨w.heap.size, 0, none⟩ = some (.bool n.leaf) := (g2).cell 0
            have s1 : wf.cell? ⟨w.heap.size, 1, none⟩ = some (.slice A n.keys.length ca) := (g2).cell 1
            have s2 : wf.cell? ⟨w.heap.size, 2, none⟩ = some (.slice C n.vals.length cb) := (g2).cell 2
            have s3 : wf.cell? ⟨w.heap.size, 3, none⟩ = some (.slice D n.kids.length cc) := (g2).cell 3
            refine bodyPost_ret (v := .agg #[.bool n.leaf, .slice A n.keys.length ca, .slice C n.vals.length cb, .slice D n.kids.length cc]) (by simp [results, Try.results30, go_sem, s0, s1, s2, s3]) rfl ⟨g1, ?_⟩
            rw [HPQ.out]
            exact ⟨A, C, D, ca, cb, cc, rfl, g3, fun a e => by have := HfA.out a e; omega, fun a e => by have := HfC.out a e; omega, fun a e => by have := HfD.out a e; omega⟩
        · have HPost := Lib.hid (show ∀ w', KQ q w w' → NdPost w q PB (.panicked brokenE) w' from fun w' hk => ⟨hk, by rw [HPN.out, if_neg (fun h => by have := checkN_zero.2 ⟨h.1, h.2.1⟩; omega)]⟩)
          rw [hcn, show ((2 : Nat) : Int) = 2 from rfl] at HCK
          have HCK := Lib.hid HCK
          clear hcn
          go_wp2_with fail
          refine HCK.out.mono ?_
          rintro e w4 ⟨rfl, b4⟩
          have HK4 := Lib.hid (HK3.out.trans (KQ.of_below (by omega) b4))
          clear b4
          go_wp2_with fail
          exact ⟨rfl, HPost.out _ HK4.out⟩
        · have HPost := Lib.hid (show ∀ w', KQ q w w' → NdPost w q PB (.panicked brokenE) w' from fun w' hk => ⟨hk, by rw [HPN.out, if_neg (fun h => by have := checkN_zero.2 ⟨h.1, h.2.1⟩; omega)]⟩)
          rw [hcn, show ((4 : Nat) : Int) = 4 from rfl] at HCK
          have HCK := Lib.hid HCK
          clear hcn
          go_wp2_with fail
          refine HCK.out.mono ?_
          rintro e w4 ⟨rfl, b4⟩
          have HK4 := Lib.hid (HK3.out.trans (KQ.of_below (by omega) b4))
          clear b4
          go_wp2_with fail
          exact ⟨rfl, HPost.out _ HK4.out⟩
    · have q1 : ((x : Int) == 1) = false := by rw [beq_eq_false_iff_ne]; omega
      have q2 : ((x : Int) == 2) = false := by rw [beq_eq_false_iff_ne]; omega
      have HPost := Lib.hid (show ∀ w', KQ q w w' → NdPost w q PB (.panicked brokenE) w' from fun w' hk => ⟨hk, by
        rw [HPB.out]
        unfold nodeP
        rw [mark_other e1 e2]; rfl⟩)
      clear e1 e2
      go_wp2_with fail
      exact ⟨rfl, HPost.out _ HK1.out⟩
end Go.Proofs.Ytopkkolcimmedaa
