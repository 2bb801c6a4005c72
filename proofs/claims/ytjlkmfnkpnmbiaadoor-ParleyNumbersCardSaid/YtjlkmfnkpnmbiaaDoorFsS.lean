/- Sort's walk over the library's SortFunc. Condition: the numbers lie in memory. -/
import Derived.Test.YtjlkmfnkpnmbiaaDoorFsL
import Derived.Shelf.SlSortCmp.Whole1
import Derived.Lib.OwnBridge
import Derived.Laws.CopyOwn
import Derived.Laws.MakeOwn
namespace Go.Proofs.YtjlkmfnkpnmbiaaDoor
open Go.RowKit Go.Shelf Go.Lib Go.Sort

def sRen : Ren where
  f := fun n => if n = 6 then 45 else if n = 14 then 52 else if n = 15 then 53 else if n = 20 then 60 else if n = 21 then 61 else if n = 22 then 62 else if n = 23 then 63 else if n = 24 then 64 else if n = 25 then 65 else if n = 26 then 66 else if n = 27 then 67 else if n = 28 then 68 else if n = 29 then 69 else if n = 46 then 74 else if n = 47 then 75 else if n = 48 then 76 else if n = 49 then 77 else if n = 50 then 78 else if n = 57 then 90 else n
  t := fun n => if n = 0 then 0 else if n = 3 then 3 else if n = 4 then 4 else if n = 5 then 5 else if n = 9 then 9 else if n = 22 then 37 else if n = 24 then 25 else if n = 25 then 33 else if n = 39 then 70 else if n = 45 then 88 else if n = 46 then 89 else if n = 50 then 57 else if n = 53 then 95 else if n = 55 then 22 else if n = 66 then 98 else if n = 70 then 102 else if n = 76 then 116 else if n = 77 then 117 else n
  g := fun n => n
set_option maxRecDepth 100000 in
theorem laysS : SlLaysF.n6 Tryd.prog sRen := by
  constructor
  case f6 => exact ⟨Tryd.f45.name, by kernel_rfl, by kernel_rfl⟩
  case f14 => exact ⟨Tryd.f52.name, by kernel_rfl, by kernel_rfl⟩
  case f20 => exact ⟨Tryd.f60.name, by kernel_rfl, by kernel_rfl⟩
  case f21 => exact ⟨Tryd.f61.name, by kernel_rfl, by kernel_rfl⟩
  case f22 => exact ⟨Tryd.f62.name, by kernel_rfl, by kernel_rfl⟩
  case f23 => exact ⟨Tryd.f63.name, by kernel_rfl, by kernel_rfl⟩
  case f24 => exact ⟨Tryd.f64.name, by kernel_rfl, by kernel_rfl⟩
  case f25 => exact ⟨Tryd.f65.name, by kernel_rfl, by kernel_rfl⟩
  case f26 => exact ⟨Tryd.f66.name, by kernel_rfl, by kernel_rfl⟩
  case f27 => exact ⟨Tryd.f67.name, by kernel_rfl, by kernel_rfl⟩
  case f46 => exact ⟨Tryd.f74.name, by kernel_rfl, by kernel_rfl⟩
  case f49 => exact ⟨Tryd.f77.name, by kernel_rfl, by kernel_rfl⟩
  case f50 => exact ⟨Tryd.f78.name, by kernel_rfl, by kernel_rfl⟩
  case f57 => exact ⟨Tryd.f90.name, by kernel_rfl, by kernel_rfl⟩
  all_goals first | kernel_rfl | (intro w; kernel_rfl)
def encF (x : UInt64) : Value := .float .f64 x.toNat
def cfF (x y : UInt64) : Int := cmpN x.toNat y.toNat
theorem ltF (x y : UInt64) : ltOf cfF x y = decide (rankN x.toNat < rankN y.toNat) := by
  unfold ltOf cfF
  rw [Bool.eq_iff_iff, decide_eq_true_eq, decide_eq_true_eq]
  exact cmp_neg _ _
theorem swoF : SWO (ltOf cfF) := by
  constructor
  · intro x; rw [ltF]; exact decide_eq_false (Nat.lt_irrefl _)
  · intro x y z h1 h2
    rw [ltF] at h1 h2 ⊢
    have := of_decide_eq_true h1
    have := of_decide_eq_true h2
    exact decide_eq_true (by omega)
  · intro x y z h1 h2
    rw [ltF] at h1 h2 ⊢
    have := of_decide_eq_false h1
    have := of_decide_eq_false h2
    exact decide_eq_false (by omega)
theorem reads_cmp (blk off size : Nat) (w : World) : CmpReads Tryd.prog 19 #[] encF cfF blk off size w :=
  fun m os dk _ x y => (cmp_any x.toNat y.toNat x.toNat_lt y.toNat_lt (sortWorld encF w blk off m dk os)).mono fun _ _ h => ⟨h.1, 0, h.2.symm⟩
theorem below_grown (w : World) (os : Array Obj) : Go.RowKit.Below w.heap.size w (grow w os) := ⟨rfl, rfl, rfl, by simp, fun k hk => heap_grow_old _ _ hk⟩
/-- Words as numbers of 64 bits. -/
def w64 (l : List Nat) : List UInt64 := l.map UInt64.ofNat
theorem w64_back {l : List Nat} (h : ∀ x ∈ l, x < 18446744073709551616) : (w64 l).map UInt64.toNat = l := by
  unfold w64
  rw [List.map_map]
  conv => rhs; rw [← List.map_id l]
  refine List.map_congr_left fun x hx => ?_
  have := h x hx
  show (UInt64.ofNat x).toNat = x
  rw [UInt64.toNat_ofNat']
  omega
theorem encF_map (L : List UInt64) : L.map encF = f64s (L.map UInt64.toNat) := by
  unfold f64s
  rw [List.map_map]
  rfl
/-- The library's sort on a row of one's own. -/
theorem sortfunc_any (L : List UInt64) (B g n c : Nat) (hn : n = L.length) (hz : n ≤ 1000) (w : World) (hown : w.ownsRow B 25 1 (.slice (some ⟨g, 0, none⟩) n c) n (L.map encF)) :
    Calls Tryd.prog 45 #[.slice (some ⟨g, 0, none⟩) n c, .func (.func 19) #[] #[]] w fun e w' => e = .returned (.tuple #[]) ∧ ∃ L' : List UInt64, L'.Perm L ∧ SortedN (L'.map UInt64.toNat) ∧ Seg w' (some ⟨g, 0, none⟩) (L'.map encF) ∧ (B ≤ w.heap.size → Go.RowKit.Below B w w') := by
  obtain ⟨g', cap, e0, hg, hlt, hnc, hmax, hlen, hH⟩ := holds_of_ownsRow hown (by intro e; cases e)
  injection e0 with e1 _ e3
  injection e1 with e1
  injection e1 with e1
  subst e1; subst e3
  have hsz : L.toArray.size = n := by simpa using hn.symm
  have C := Any.slices_SortFunc laysS encF (fun _ => rfl) cfF swoF 19 #[] g 0 c L.toArray w (enters_of Tryd.func19 (by kernel_rfl) rfl) (reads_cmp g 0 _ w).lays hH hlt (by rw [hsz]; omega)
  rw [hsz] at C
  refine C.mono ?_
  rintro e w' ⟨he, d', q, os, hp, hs, rfl⟩
  have hd : d'.size = n := by rw [hp.1, hsz]
  have hpl : d'.toList.Perm L := by
    have := hp.2.2
    rw [show d'.extract 0 n = d' by rw [← hd]; simp, show L.toArray.extract 0 n = L.toArray by rw [← hsz]; simp] at this
    exact this
  have ho := ownsRow_putRow (q := q) (ys := d'.toList) (k := n) hown (by simpa using hd) (Nat.le_refl _)
  rw [List.take_of_length_le (by simp [hd])] at ho
  refine ⟨he, d'.toList, hpl, ?_, ?_, fun hB => ?_⟩
  · unfold SortedN
    rw [List.pairwise_map]
    refine List.pairwise_iff_getElem.2 fun i j hi hj hij => ?_
    have hi' : i < d'.size := by simpa using hi
    have hj' : j < d'.size := by simpa using hj
    have h := hs i j (Nat.zero_le _) hij (by omega)
    rw [ltF, getElem!_pos d' j hj', getElem!_pos d' i hi'] at h
    have := of_decide_eq_false h
    rw [Array.getElem_toList, Array.getElem_toList]
    omega
  · have := Seg.of_own ho
    rw [show d'.toList.toArray = d' by simp] at this
    exact this.bel (below_grown _ _)
  · have := below_putRow (q := q) (d := d') (enc := encF) (Go.RowKit.Below.refl B w) hg
    exact this.trans ((below_grown _ os).mono (Nat.le_trans hB this.size))
theorem below_setRow_ {B : Nat} {a w : World} (h : Go.RowKit.Below B a w) {k : Nat} (hk : B ≤ k) (new : Array Value) : Go.RowKit.Below B a (w.setRow k new) :=
  ⟨h.os, h.tape, h.output, by simpa [World.setRow] using h.size, fun i hi => by
    rw [← h.block i hi]
    simp [World.setRow, Array.getElem?_modify, show ¬ k = i by omega]⟩
/-- A copy into a row of one's own, from its first place on. -/
theorem wpList_copy_seg {P : Program} (w : World) {ops : Array Oper} {rest : List Oper} {o : Oper} {a : Act} {Q : Exit → Act → World → Prop} (hgd : o.guard = none) (d s : Operand) (dT sT : TypeId)
    (ho : o.op = .call { callee := .builtin .copy, args := #[d, s], argTypes := #[dT, sT] }) (elem : TypeId) (hu : P.underlying dT = some (.slice elem)) (hsz : (P.info? elem).map (·.size) = some 1)
    (g dLen dCap : Nat) (hd : a.eval d = .slice (some ⟨g, 0, none⟩) dLen dCap) (A : Option Addr) (m c : Nat) (hs : a.eval s = .slice A m c)
    (cur : Array Value) (t : TypeId) (hg : w.heap[g]? = some (.cells cur t (0, 0))) (news : List Value) (hm : m = news.length) (hr : Seg w A news) (hfit : m ≤ dLen) (hfit2 : m ≤ cur.size) (h1 : ∀ v ∈ news, v.oneCell' = true)
    (h : ∀ w', w'.heap[g]? = some (.cells (news ++ cur.toList.drop m).toArray t (0, 0)) → Go.RowKit.Below g w w' → wpList P ops Q rest (a.put o.dst (goInt m)) w') : wpList P ops Q (o :: rest) a w := by
  by_cases hn : news = []
  · subst hn
    subst hm
    refine wpList_copy_nothing hgd d s dT sT ho elem hu hsz (some ⟨g, 0, none⟩) A dLen dCap _ c hd hs (by simp) (h w ?_ (Go.RowKit.Below.refl _ _))
    simpa using hg
  · obtain ⟨b, off, rfl, hb, hc⟩ := hr hn
    have hmn : news.length = Nat.min m dLen := by rw [← hm]; simp [Nat.min_eq_left hfit]
    refine wpList_copy_own hgd d s dT sT ho elem hu hsz g 0 dLen dCap ⟨b, off, none⟩ m c hd hs cur t hg news hmn (fun j v hj => ?_) (by omega) h1 ?_
    · have hj' := (List.getElem?_eq_some_iff.1 hj).1
      rw [show ((⟨b, off, none⟩ : Addr).add j) = ⟨b, off + j, none⟩ by unfold Addr.add; split <;> simp_all]
      rw [hc j hj', hj]
    · have e : (cur.toList.take 0 ++ (news ++ cur.toList.drop (0 + news.length))).toArray = (news ++ cur.toList.drop m).toArray := by simp [hm]
      rw [e, ← hm]
      exact h _ (setRow_heap w g cur _ t _ hg) (below_setRow_ (Go.RowKit.Below.refl _ _) (Nat.le_refl _) _)
set_option maxRecDepth 100000 in
set_option maxHeartbeats 1000000 in
theorem sort_any (A : Option Addr) (n c : Nat) (l : List Nat) (hn : n = l.length) (w : World) (hA : Seg w A (f64s l)) (hl : ∀ x ∈ l, x < 18446744073709551616) (h60 : n ≤ 60) :
    Calls Tryd.prog 22 #[.slice A n c] w fun e w' => ∃ B l', e = .returned (.slice (some ⟨B, 0, none⟩) n n) ∧ l'.Perm l ∧ SortedN l' ∧ Seg w' (some ⟨B, 0, none⟩) (f64s l') ∧ Go.RowKit.Below w.heap.size w w' := by
  obtain ⟨i0, hi0, hz0, hz1, hz2⟩ := info_parts info25
  have hmk : (Instr.makeSlice 37 (.int .i64 (n : Int)) (.int .i64 (n : Int))).run Tryd.prog w = .ok (.slice (some ⟨w.heap.size, 0, none⟩) n n) (w.alloc (.cells (madeCells #[.float .f64 0] n) 25)) := by
    have := run_make (P := Tryd.prog) w 37 25 i0 (.float .f64 0) Tryd.underlying37 hi0 hz0 .i64 .i64 n n (by omega) (by omega) (by rw [hz2]; omega) (by omega)
    rw [hz1, Nat.mul_one, Int.toNat_natCast] at this
    exact this
  have hcur : (madeCells #[Value.float .f64 0] n).toList = List.replicate n (.float .f64 0) := by rw [toList_madeCells_one]
  have hcs : (madeCells #[Value.float .f64 0] n).size = n := by rw [← Array.length_toList, hcur, List.length_replicate]
  have HA := Lib.hid (hA.bel ((Go.RowKit.Below.refl w.heap.size w).alloc (Nat.le_refl _) (.cells (madeCells #[.float .f64 0] n) 25)))
  have HB := Lib.hid ((Go.RowKit.Below.refl w.heap.size w).alloc (Nat.le_refl _) (.cells (madeCells #[.float .f64 0] n) 25))
  have HL := Lib.hid (w64_back hl)
  have hlen : (f64s l).length = n := by rw [f64s_length]; exact hn.symm
  have hwl : (w64 l).length = n := by unfold w64; rw [List.length_map]; exact hn.symm
  have HW := Lib.hid hwl
  have HLEN := Lib.hid hlen
  obtain ⟨W0, hW0⟩ : ∃ x, x = w.alloc (.cells (madeCells #[.float .f64 0] n) 25) := ⟨_, rfl⟩
  have hbk : W0.heap[w.heap.size]? = some (.cells (madeCells #[.float .f64 0] n) 25 (0, 0)) := by rw [hW0]; exact heap_alloc_new w _
  rw [← hW0] at hmk HA HB
  generalize madeCells #[Value.float .f64 0] n = cur at *
  clear hn hA hl hlen hwl hW0
  go_enter Tryd.func22, Tryd.ntmps22
  go_wp2_with (first
    | (refine wpList_copy_seg _ rfl _ _ _ _ rfl 25 Tryd.underlying37 (by kernel_rfl) w.heap.size n n rfl A n c rfl cur 25 hbk (f64s l) HLEN.out.symm HA.out (Nat.le_refl _) (by omega) (f64s_one l) ?_; intro w1 hb1 hbw1)
    | fail)
  have hdr : cur.toList.drop n = [] := List.drop_eq_nil_of_le (by rw [Array.length_toList]; omega)
  rw [hdr, List.append_nil] at hb1
  have hown : w1.ownsRow w.heap.size 25 1 (.slice (some ⟨w.heap.size, 0, none⟩) n n) n ((w64 l).map encF) := by
    rw [encF_map, HL.out]
    refine ⟨by rw [HLEN.out, Nat.mul_one], .inr ⟨w.heap.size, n, (f64s l).toArray, rfl, Nat.le_refl _, hb1, Nat.le_refl _, by simp only [maxLen]; omega, by simpa using HLEN.out, ?_⟩⟩
    rw [Nat.mul_one, List.take_of_length_le (by simpa using Nat.le_of_eq HLEN.out)]
  have HO := Lib.hid hown
  have HB1 := Lib.hid (HB.out.trans hbw1)
  clear hown hbw1 hb1 hdr
  go_wp2_with fail
  refine (sortfunc_any (w64 l) w.heap.size w.heap.size n n HW.out.symm (by omega) w1 HO.out).mono ?_
  rintro e w2 ⟨rfl, L', hp, hs, hseg, hb2⟩
  have hp2 : (L'.map UInt64.toNat).Perm l := by have := hp.map UInt64.toNat; rwa [HL.out] at this
  have HP := Lib.hid hp2
  have HS := Lib.hid hs
  have HG := Lib.hid (show Seg w2 (some ⟨w.heap.size, 0, none⟩) (f64s (L'.map UInt64.toNat)) by rw [← encF_map]; exact hseg)
  have HB2 := Lib.hid (HB1.out.trans (hb2 HB1.out.size))
  clear hp hs hseg hb2 hp2
  go_wp2_with fail
  go_ret
  exact ⟨_, L'.map UInt64.toNat, rfl, HP.out, HS.out, HG.out, HB2.out⟩
end Go.Proofs.YtjlkmfnkpnmbiaaDoor
