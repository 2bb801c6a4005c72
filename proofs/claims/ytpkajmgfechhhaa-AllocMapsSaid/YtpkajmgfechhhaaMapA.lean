/- The walks of a map's small parts: is a block in use, how many are free, the form, a copy. Conditions: the map's bytes lie in memory. -/
import Derived.Test.YtpkajmgfechhhaaOct
import Derived.Test.YtpkajmgfechhhaaMapR
import Derived.Deep.RegionHeld3
import Derived.Deep.QuietTactic
import Derived.BigQuiet
namespace Go.Proofs.Ytpkajmgfechhhaa
open Go.RowKit

theorem only_refl (w : World) (row : Option Nat) : w.grownBy w row := ⟨rfl, rfl, rfl, Nat.le_refl _, fun _ _ _ => rfl⟩
theorem only_drew {a w : World} {row : Option Nat} (h : a.grownBy w row) : a.grownBy w.drew row := ⟨h.os, h.tape, h.output, h.size, h.block⟩
theorem only_alloc {a w : World} {row : Option Nat} (h : a.grownBy w row) (o : Obj) : a.grownBy (w.alloc o) row :=
  ⟨h.os, h.tape, h.output, Nat.le_trans h.size (by simp), fun i hi hne => (Below.heap_alloc w o i (Nat.lt_of_lt_of_le hi h.size)).trans (h.block i hi hne)⟩
theorem only_setCell {a w : World} {g : Nat} (h : a.grownBy w (some g)) {p : Addr} (hp : p.block = g ∨ a.heap.size ≤ p.block) (u : Value) : a.grownBy (w.setCell p u) (some g) :=
  ⟨h.os, h.tape, h.output, by simpa [World.setCell] using h.size, fun i hi hne => (Below.heap_setCell w p u i (by
    rintro rfl
    rcases hp with hp | hp
    · exact hne (by rw [hp])
    · omega)).trans (h.block i hi hne)⟩
theorem only_then {a w w' : World} {row : Option Nat} (h : a.grownBy w row) (hb : w.grownBy w' row) : a.grownBy w' row :=
  ⟨hb.os.trans h.os, hb.tape.trans h.tape, hb.output.trans h.output, Nat.le_trans h.size hb.size, fun i hi hn => (hb.block i (Nat.lt_of_lt_of_le hi h.size) hn).trans (h.block i hi hn)⟩
theorem only_bel {a w w' : World} {row : Option Nat} {B : Nat} (h : a.grownBy w row) (hB : a.heap.size ≤ B) (hb : Below B w w') : a.grownBy w' row :=
  ⟨hb.os.trans h.os, hb.tape.trans h.tape, hb.output.trans h.output, Nat.le_trans h.size hb.size, fun i hi hn => (hb.block i (Nat.lt_of_lt_of_le hi hB)).trans (h.block i hi hn)⟩
theorem only_below {a w : World} {g B : Nat} (h : a.grownBy w (some g)) (hB : B ≤ a.heap.size) (hg : B ≤ g) : Below B a w :=
  ⟨h.os, h.tape, h.output, h.size, fun i hi => h.block i (Nat.lt_of_lt_of_le hi hB) (fun e => by injection e; omega)⟩
theorem only_bk {a w : World} {g k : Nat} {t : TypeId} {cs : Array Value} (h : a.grownBy w (some g)) (hb : Bk a k t cs) (hk : k ≠ g) : Bk w k t cs := (h.block k hb.lt (fun e => hk (by injection e))).trans hb
theorem own_le {w : World} {base base' size n : Nat} {e : TypeId} {v : Value} {xs : List Value} (h : w.ownsRow base e size v n xs) (hb : base' ≤ base) : w.ownsRow base' e size v n xs := by
  refine ⟨h.1, ?_⟩
  rcases h.2 with hn | ⟨g, cap, cur, rfl, hg, rest⟩
  · exact .inl hn
  · exact .inr ⟨g, cap, cur, rfl, Nat.le_trans hb hg, rest⟩
theorem quiet_left {P : Program} {f : FuncId} {args : Array Value} {w : World} {n : Nat} {v : Value}
    (h : Calls P f args (w.drewN n) fun e w' => e = .returned v ∧ w.drewN n = w') : Calls P f args (w.drewN n) fun e w'' => e = .returned v ∧ ∃ m, w'' = w.drewN m :=
  h.mono fun _ _ ⟨he, hm⟩ => ⟨he, n, hm.symm⟩
theorem inRange_any (T : Int) (w : World) : Calls Try.prog 29 #[.int .i64 T] w fun e w' => e = .returned (.bool (decide (0 ≤ T ∧ T ≤ 2048))) ∧ w = w' := by
  by_cases h1 : 0 ≤ T
  · by_cases h2 : T ≤ 2048
    · have hd : decide (0 ≤ T ∧ T ≤ 2048) = true := by simp [h1, h2]
      rw [hd]
      go_enter Try.func29, Try.ntmps29
      go_wp2
      go_ret
      exact ⟨rfl, rfl⟩
    · have hd : decide (0 ≤ T ∧ T ≤ 2048) = false := by simp [h2]
      rw [hd]
      go_enter Try.func29, Try.ntmps29
      go_wp2
      go_ret
      exact ⟨rfl, rfl⟩
  · have hd : decide (0 ≤ T ∧ T ≤ 2048) = false := by simp [h1]
    rw [hd]
    go_enter Try.func29, Try.ntmps29
    go_wp2
    go_ret
    exact ⟨rfl, rfl⟩
theorem bytesFor_any (T : Nat) (h : T ≤ 2048) (w : World) : Calls Try.prog 30 #[.int .i64 T] w fun e w' => e = .returned (.int .i64 (((T + 7) / 8 : Nat) : Int)) ∧ w = w' := by
  have hq : ((T : Int) + 8 - 1) / 8 = (((T + 7) / 8 : Nat) : Int) := by omega
  generalize (T + 7) / 8 = q at *
  go_enter Try.func30, Try.ntmps30
  go_wp2
  go_ret
  exact ⟨by show Ending.returned (.int .i64 (((T : Int) + 8 - 1) / 8)) = _; rw [hq], rfl⟩
theorem bit_u8 (x r : Nat) (hx : x < 256) (_hr : r < 8) : (bits .and .u8 ((x : Int) / 2 ^ r) 1 == 1) = x.testBit r := by
  rw [show (1 : Int) = ((1 : Nat) : Int) from rfl, show (x : Int) / 2 ^ r = ((x / 2 ^ r : Nat) : Int) by simp, u8_and_nat _ _ (Nat.lt_of_le_of_lt (Nat.div_le_self _ _) hx) (by omega), Nat.and_one_is_mod]
  rw [Nat.testBit_eq_decide_div_mod_eq]
  rw [Bool.eq_iff_iff]
  simp only [beq_iff_eq, decide_eq_true_eq]
  omega
set_option maxRecDepth 100000 in
theorem used_any (T : Int) (A : Option Addr) (n c i : Nat) (l : List Nat) (hn : n = l.length) (hi : i < 8 * n) (hn2 : n ≤ 1000000) (w : World) (hA : Seg w A (u8s l)) (hl : ∀ x ∈ l, x < 256) :
    Calls Try.prog 33 #[.agg #[.int .i64 T, .slice A n c], .int .i64 i] w fun e w' => e = .returned (.bool (us l i)) ∧ Below w.heap.size w w' := by
  have hq : i / 8 < l.length := by omega
  obtain ⟨b, off, rfl, hbl, _, hc⟩ := (hA.bel ((Below.refl _ _).alloc (Nat.le_refl _) (.cells #[.int .i64 T, .slice A n c] 27))).pick (k := i / 8) (by rw [u8s_length]; exact hq)
  rw [u8s_get l _ hq] at hc
  have hx := hl _ (List.getElem_mem hq)
  have hb := bit_u8 l[i / 8] (i % 8) hx (by omega)
  have hu : us l i = l[i / 8].testBit (i % 8) := by simp [us, List.getD, hq]
  rw [hu]
  generalize l[i / 8].testBit (i % 8) = B at *
  generalize l[i / 8] = X at *
  have hd : (i : Int) / 8 = ((i / 8 : Nat) : Int) := by omega
  have hm : (i : Int) % 8 = ((i % 8 : Nat) : Int) := by omega
  have hr8 : i % 8 < 8 := by omega
  have hqn : i / 8 < n := by omega
  have i1 : (0 : Int) ≤ ((i / 8 : Nat) : Int) := by omega
  have i2 : ((i / 8 : Nat) : Int) < (n : Int) := by omega
  generalize i / 8 = q at *
  generalize i % 8 = r at *
  clear hu hn hA hl hq
  go_enter Try.func33, Try.ntmps33
  go_wp2
  go_ret
  exact ⟨rfl, (Below.refl _ _).alloc (Nat.le_refl _) _⟩

theorem pow_cases (r : Nat) (hr : r < 8) : (2 : Int) ^ r % 256 = ((2 ^ r : Nat) : Int) := by
  have h : 2 ^ r < 256 := by
    rw [show (256 : Nat) = 2 ^ 8 from rfl]
    exact Nat.pow_lt_pow_right (by omega) (by omega)
  rw [show (2 : Int) ^ r = ((2 ^ r : Nat) : Int) by simp]
  generalize 2 ^ r = q at *
  omega
theorem u8s_set (l : List Nat) (i x : Nat) : (u8s l).set i (.int .u8 (x : Int)) = u8s (l.set i x) := by simp [u8s, List.map_set]
set_option maxRecDepth 100000 in
theorem use_any (T : Int) (g n c i base : Nat) (f : Nat → Bool) (hi : i < 8 * n) (hn2 : n ≤ 1000000) (w : World) (hO : w.ownsRow base 5 1 (.slice (some ⟨g, 0, none⟩) n c) n (u8s (pk f n))) :
    Calls Try.prog 34 #[.agg #[.int .i64 T, .slice (some ⟨g, 0, none⟩) n c], .int .i64 i] w fun e w' => e = .returned (.tuple #[]) ∧ w'.ownsRow base 5 1 (.slice (some ⟨g, 0, none⟩) n c) n (u8s (pk (upd f i true) n)) ∧ w.grownBy w' (some g) := by
  have hq : i / 8 < n := by omega
  have hO1 := hO.alloc (.cells #[.int .i64 T, .slice (some ⟨g, 0, none⟩) n c] 27)
  have BX := (Bk.new w 27 #[.int .i64 T, .slice (some ⟨g, 0, none⟩) n c]).cell 1
  have hbb := only_drew (only_setCell (only_alloc (only_refl w (some g)) (.cells #[.int .i64 T, .slice (some ⟨g, 0, none⟩) n c] 27)) (p := ⟨g, i / 8, none⟩) (.inl rfl) (.int .u8 ((byteOf (upd f i true) (i / 8) : Nat) : Int)))
  have y0 := hO1.cellAt (i / 8) (by omega)
  have f0 := hO1.frozenAt (i / 8)
  have hst := (hO1.stored (i / 8) (.int .u8 ((byteOf (upd f i true) (i / 8) : Nat) : Int))).1
  rw [u8s_set, pk_upd] at hst
  rw [List.getElem?_eq_getElem (by rw [u8s_length, pk_length]; exact hq), u8s_get _ _ (by rw [pk_length]; exact hq), pk_get _ _ _ hq] at y0
  have hX := byteOf_lt f (i / 8)
  have hbs := byteOf_set f i
  have hp := pow_cases (i % 8) (by omega)
  have hp2 : 2 ^ (i % 8) < 256 := by
    rw [show (256 : Nat) = 2 ^ 8 from rfl]
    exact Nat.pow_lt_pow_right (by omega) (by omega)
  have t0 : (i : Int).tdiv 8 = ((i / 8 : Nat) : Int) := by rw [Int.tdiv_eq_ediv_of_nonneg (by omega)]; omega
  have t1 : (i : Int).tmod 8 = ((i % 8 : Nat) : Int) := by rw [Int.tmod_eq_emod_of_nonneg (by omega)]; omega
  have t2 : IntKind.i64.wrap ((i / 8 : Nat) : Int) = ((i / 8 : Nat) : Int) := IntWalk.i64_in _ (by omega)
  have t3 : IntKind.i64.wrap ((i % 8 : Nat) : Int) = ((i % 8 : Nat) : Int) := IntWalk.i64_in _ (by omega)
  have q1 : (0 : Int) ≤ ((i / 8 : Nat) : Int) := by omega
  have q2 : ((i / 8 : Nat) : Int) < (n : Int) := by omega
  have q3 : (0 : Int) ≤ ((i % 8 : Nat) : Int) := by omega
  have q4 : ((i % 8 : Nat) : Int) < 8 := by omega
  generalize byteOf (upd f i true) (i / 8) = Y at *
  generalize byteOf f (i / 8) = X at *
  generalize 2 ^ (i % 8) = P at *
  generalize i / 8 = q at *
  generalize i % 8 = r at *
  have hv : bits .or .u8 (X : Int) ((2 : Int) ^ r % 256) = (Y : Int) := by rw [hp, u8_or_nat _ _ hX hp2, hbs]
  rw [← hv] at hst hbb
  have HS := Lib.hid hst
  have HB := Lib.hid hbb
  clear hO hO1 hi hbs hp hp2 hv hst hbb
  go_enter Try.func34, Try.ntmps34
  go_wp2_with fail
  generalize w.alloc (.cells #[.int .i64 T, .slice (some ⟨g, 0, none⟩) n c] 27) = w1 at *
  generalize w.heap.size = gb at *
  go_still_tail 11, (by kernel_rfl)
  change wpList _ _ _ _ _ w1.drew
  go_wp2_with fail
  go_end0
  exact ⟨rfl, HS.out.drew, HB.out⟩
set_option maxRecDepth 100000 in
theorem giveUp_any (T : Int) (g n c i base : Nat) (f : Nat → Bool) (hi : i < 8 * n) (hn2 : n ≤ 1000000) (w : World) (hO : w.ownsRow base 5 1 (.slice (some ⟨g, 0, none⟩) n c) n (u8s (pk f n))) :
    Calls Try.prog 35 #[.agg #[.int .i64 T, .slice (some ⟨g, 0, none⟩) n c], .int .i64 i] w fun e w' => e = .returned (.tuple #[]) ∧ w'.ownsRow base 5 1 (.slice (some ⟨g, 0, none⟩) n c) n (u8s (pk (upd f i false) n)) ∧ w.grownBy w' (some g) := by
  have hq : i / 8 < n := by omega
  have hO1 := hO.alloc (.cells #[.int .i64 T, .slice (some ⟨g, 0, none⟩) n c] 27)
  have BX := (Bk.new w 27 #[.int .i64 T, .slice (some ⟨g, 0, none⟩) n c]).cell 1
  have hbb := only_drew (only_setCell (only_alloc (only_refl w (some g)) (.cells #[.int .i64 T, .slice (some ⟨g, 0, none⟩) n c] 27)) (p := ⟨g, i / 8, none⟩) (.inl rfl) (.int .u8 ((byteOf (upd f i false) (i / 8) : Nat) : Int)))
  have y0 := hO1.cellAt (i / 8) (by omega)
  have f0 := hO1.frozenAt (i / 8)
  have hst := (hO1.stored (i / 8) (.int .u8 ((byteOf (upd f i false) (i / 8) : Nat) : Int))).1
  rw [u8s_set, pk_upd] at hst
  rw [List.getElem?_eq_getElem (by rw [u8s_length, pk_length]; exact hq), u8s_get _ _ (by rw [pk_length]; exact hq), pk_get _ _ _ hq] at y0
  have hX := byteOf_lt f (i / 8)
  have hbs := byteOf_clear f i
  have hp := pow_cases (i % 8) (by omega)
  have hp2 : 2 ^ (i % 8) < 256 := by
    rw [show (256 : Nat) = 2 ^ 8 from rfl]
    exact Nat.pow_lt_pow_right (by omega) (by omega)
  have t0 : (i : Int).tdiv 8 = ((i / 8 : Nat) : Int) := by rw [Int.tdiv_eq_ediv_of_nonneg (by omega)]; omega
  have t1 : (i : Int).tmod 8 = ((i % 8 : Nat) : Int) := by rw [Int.tmod_eq_emod_of_nonneg (by omega)]; omega
  have t2 : IntKind.i64.wrap ((i / 8 : Nat) : Int) = ((i / 8 : Nat) : Int) := IntWalk.i64_in _ (by omega)
  have t3 : IntKind.i64.wrap ((i % 8 : Nat) : Int) = ((i % 8 : Nat) : Int) := IntWalk.i64_in _ (by omega)
  have q1 : (0 : Int) ≤ ((i / 8 : Nat) : Int) := by omega
  have q2 : ((i / 8 : Nat) : Int) < (n : Int) := by omega
  have q3 : (0 : Int) ≤ ((i % 8 : Nat) : Int) := by omega
  have q4 : ((i % 8 : Nat) : Int) < 8 := by omega
  generalize byteOf (upd f i false) (i / 8) = Y at *
  generalize byteOf f (i / 8) = X at *
  generalize 2 ^ (i % 8) = P at *
  generalize i / 8 = q at *
  generalize i % 8 = r at *
  have hv : bits .andNot .u8 (X : Int) ((2 : Int) ^ r % 256) = (Y : Int) := by rw [hp, u8_andNot_nat _ _ hX hp2, hbs]
  rw [← hv] at hst hbb
  have HS := Lib.hid hst
  have HB := Lib.hid hbb
  clear hO hO1 hi hbs hp hp2 hv hst hbb
  go_enter Try.func35, Try.ntmps35
  go_wp2_with fail
  generalize w.alloc (.cells #[.int .i64 T, .slice (some ⟨g, 0, none⟩) n c] 27) = w1 at *
  generalize w.heap.size = gb at *
  go_still_tail 11, (by kernel_rfl)
  change wpList _ _ _ _ _ w1.drew
  go_wp2_with fail
  go_end0
  exact ⟨rfl, HS.out.drew, HB.out⟩
/-- What stands in memory while a map is copied. -/
structure MbW (w : World) (box : Array Value) (w' : World) : Prop where
  box : Bk w' w.heap.size 27 box
  bel : Below w.heap.size w w'
theorem MbW.step {w w' w'' : World} {box : Array Value} (h : MbW w box w') (hb : Below w'.heap.size w' w'') : MbW w box w'' := ⟨h.box.bel hb, h.bel.trans (hb.mono h.bel.size)⟩
theorem MbW.drew {w w' : World} {box : Array Value} (h : MbW w box w') : MbW w box w'.drew := h.step (Below.refl _ _).drew
theorem MbW.set {w w' : World} {box : Array Value} (h : MbW w box w') (i : Nat) (v : Value) : MbW w box (w'.setCell ⟨w.heap.size + 1, i, none⟩ v) :=
  ⟨h.box.far (by show w.heap.size ≠ w.heap.size + 1; omega) v, h.bel.setCell (p := ⟨w.heap.size + 1, i, none⟩) (by show w.heap.size ≤ w.heap.size + 1; omega) v⟩
theorem MbW.S {w w' : World} {x y : Value} (h : MbW w #[x, y] w') : w'.cell? ⟨w.heap.size, 0, none⟩ = some x ∧ w'.cell? ⟨w.heap.size, 1, none⟩ = some y ∧ MbW w #[x, y] w' := ⟨h.box.cell 0, h.box.cell 1, h⟩
set_option maxRecDepth 100000 in
set_option maxHeartbeats 1000000 in
/-- A copy of a map: what the copy has, and that it is one's own. -/
theorem mclone_any (T : Int) (A : Option Addr) (n c : Nat) (l : List Nat) (hn : n = l.length) (hz : n ≤ 1000000) (w : World) (hS : Seg w A (u8s l)) :
    Calls Try.prog 32 #[.agg #[.int .i64 T, .slice A n c]] w fun e w' => ∃ A' c', e = .returned (.agg #[.int .i64 T, .slice A' n c']) ∧ n ≤ c' ∧ w'.ownsRow w.heap.size 5 1 (.slice A' n c') n (u8s l) ∧ Below w.heap.size w w' := by
  have HN := Lib.hid hn
  have hb := (((Below.refl w.heap.size w).alloc (Nat.le_refl _) (.cells #[.int .i64 T, .slice A n c] 27)).alloc (by simp) (.cells #[.int .i64 0, .slice none 0 0] 27))
  have HS := Lib.hid (hS.bel hb)
  have hS0 := MbW.S ⟨(Bk.new w 27 #[.int .i64 T, .slice A n c]).alloc (.cells #[.int .i64 0, .slice none 0 0] 27), hb⟩
  have HR := Lib.hid (show Bk ((w.alloc (.cells #[.int .i64 T, .slice A n c] 27)).alloc (.cells #[.int .i64 0, .slice none 0 0] 27)) (w.heap.size + 1) 27 #[.int .i64 0, .slice none 0 0] by
    have h1 := Bk.new (w.alloc (.cells #[.int .i64 T, .slice A n c] 27)) 27 #[.int .i64 0, .slice none 0 0]
    rwa [World.size_alloc] at h1)
  have HZ := Lib.hid (show ((w.alloc (.cells #[.int .i64 T, .slice A n c] 27)).alloc (.cells #[.int .i64 0, .slice none 0 0] 27)).heap.size = w.heap.size + 2 by simp)
  clear hn hS hb
  go_enter Try.func32, Try.ntmps32
  go_wp2_with fail
  generalize (w.alloc (.cells #[.int .i64 T, .slice A n c] 27)).alloc (.cells #[.int .i64 0, .slice none 0 0] 27) = w1 at *
  have H0 := Lib.hid hS0.2.2
  go_region_held3 (fun w' => w'.cell? ⟨w.heap.size, 0, none⟩ = some (.int .i64 T) ∧ w'.cell? ⟨w.heap.size, 1, none⟩ = some (.slice A n c) ∧ MbW w #[.int .i64 T, .slice A n c] w')
    (first
      | (with_reducible assumption)
      | (with_reducible exact MbW.S (H0.out.drew))
      | (with_reducible exact MbW.S (((H0.out.drew.step b1).set 0 _).set 1 _))
      | (with_reducible exact MbW.S (H0.out.drew.step b1)))
    ((go_at_call 37; refine (clone_all A n c l HN.out hz _ (HS.out.bel (Below.refl _ _).drew)).mono ?_; rintro e w2 ⟨A1, c1, rfl, hc1, o1, b1⟩; have O1 := Lib.hid o1; have r1 := HR.out.drew.bel b1; have y0 := r1.cell 0; have y1 := r1.cell 1; have f0 := r1.frozen 0; have f1 := r1.frozen 1; clear o1 r1))
  have B1 := Lib.hid (H0.out.drew.bel.trans (b1.mono H0.out.drew.bel.size))
  have L1 := Lib.hid (show w.heap.size + 1 < w1.drew.heap.size by have := HZ.out; show _ < w1.heap.size; omega)
  rename_i hHeld
  clear hHeld b1
  go_wp2_with fail
  exact bodyPost_ret (v := .agg #[.int .i64 T, .slice A1 n c1]) (by simp [results, Try.results32, go_sem, y0, y1]) rfl
    ⟨A1, c1, rfl, hc1, own_le (ownsRow_setCell_below (ownsRow_setCell_below O1.out (a := ⟨w.heap.size + 1, 0, none⟩) L1.out _) (a := ⟨w.heap.size + 1, 1, none⟩) L1.out _) (by have := L1.out; omega), (B1.out.setCell (p := ⟨w.heap.size + 1, 0, none⟩) (by show w.heap.size ≤ w.heap.size + 1; omega) _).setCell (p := ⟨w.heap.size + 1, 1, none⟩) (by show w.heap.size ≤ w.heap.size + 1; omega) _⟩
set_option maxRecDepth 100000 in
theorem ones_int (x : Int) (h0 : 0 ≤ x) (h1 : x ≤ 255) (w : World) : Calls Try.prog 36 #[.int .u8 x] w fun e w' => e = .returned (.int .i64 (Lib.onesCount x.toNat)) ∧ w = w' := by
  have hO := Lib.pop8_eq ⟨x.toNat, by omega⟩
  have hl := Lib.onesCount_le8 ⟨x.toNat, by omega⟩
  simp only [Int.toNat_of_nonneg h0] at hO hl
  have b1 : 0 ≤ Lib.pop8 x := by omega
  have b2 : Lib.pop8 x ≤ 8 := by omega
  have HO := Lib.hid hO
  clear hO hl
  go_enter Try.func36, Try.ntmps36
  go_wp2
  go_ret
  exact ⟨by show Ending.returned (.int .i64 (Lib.pop8 x)) = _; rw [HO.out], rfl⟩
set_option maxRecDepth 100000 in
theorem ones_any (x : Nat) (hx : x < 256) (w : World) : Calls Try.prog 36 #[.int .u8 (x : Int)] w fun e w' => e = .returned (.int .i64 ((Lib.onesCount x : Nat) : Int)) ∧ w = w' := by
  have h := ones_int (x : Int) (by omega) (by omega) w
  rwa [Int.toNat_natCast] at h
set_option maxRecDepth 100000 in
theorem mfree_any (T : Nat) (A : Option Addr) (c n : Nat) (f : Nat → Bool) (hn : n = (T + 7) / 8) (hT : T ≤ 2048) (hf : flat f T) (w : World) (hS : Seg w A (u8s (pk f n))) :
    Calls Try.prog 27 #[.agg #[.int .i64 (T : Int), .slice A n c]] w fun e w' => e = .returned (.int .i64 ((frees f T).length : Int)) ∧ Below w.heap.size w w' := by
  have HN := Lib.hid hn
  have hb := (Below.refl w.heap.size w).alloc (Nat.le_refl _) (.cells #[.int .i64 (T : Int), .slice A n c] 27)
  have HS := Lib.hid (hS.bel hb)
  have HB := Lib.hid hb
  have HF := Lib.hid hf
  have hnT : 8 * n ≤ T + 7 := by omega
  have hTn : T ≤ 8 * n := by omega
  clear hn hS hb hf
  go_enter Try.func27, Try.ntmps27
  go_wp2
  go_loop [3, 11] (fun x i => ∃ k : Nat, k ≤ n ∧ i = .int .i64 k ∧ x = .int .i64 ((T : Int) - (cnt f (8 * k) : Nat))) (fun _ i => n - (intOf i).toNat)
  case atStart => exact ⟨0, by omega, rfl, by simp [cnt]⟩
  case round =>
    obtain ⟨k, hk, rfl, rfl⟩ := hrel
    have hc1 := cnt_le f (8 * k)
    by_cases hlt : k < n
    · obtain ⟨b, off, rfl, hbl, _, hc⟩ := HS.out.pick (k := k) (by rw [u8s_length, pk_length]; exact hlt)
      rw [u8s_get _ _ (by rw [pk_length]; exact hlt), pk_get _ _ _ hlt] at hc
      have hx := byteOf_lt f k
      have ho := Lib.onesCount_le8 ⟨byteOf f k, hx⟩
      have he := cnt_eight f k
      simp only at ho
      have HO := Lib.hid (fun w => ones_any (byteOf f k) hx w)
      have HE := Lib.hid (show (T : Int) - ((cnt f (8 * (k + 1)) : Nat) : Int) = (T : Int) - ((cnt f (8 * k) : Nat) : Int) - ((Lib.onesCount (byteOf f k) : Nat) : Int) by omega)
      have i1 : (0 : Int) ≤ (k : Int) := by omega
      clear he
      generalize Lib.onesCount (byteOf f k) = O at *
      generalize byteOf f k = X at *
      generalize hC : cnt f (8 * k) = C at *
      clear hC
      go_wp2_with (go_at_call 36; refine (HO.out _).mono ?_; rintro e w2 ⟨rfl, rfl⟩)
      go_round
      case rel => exact ⟨k + 1, by omega, by go_num, by rw [HE.out]⟩
      case measure => simp [intOf]; omega
    · obtain rfl : k = n := by omega
      have h1 := cnt_flat HF.out (8 * k) hTn
      have h2 := frees_length f T
      have h3 : (T : Int) - ((cnt f (8 * k) : Nat) : Int) = ((frees f T).length : Int) := by omega
      have H3 := Lib.hid h3
      clear h1 h2 h3 hc1
      go_wp2
      go_ret
      exact ⟨by rw [← H3.out]; rfl, HB.out⟩
end Go.Proofs.Ytpkajmgfechhhaa
