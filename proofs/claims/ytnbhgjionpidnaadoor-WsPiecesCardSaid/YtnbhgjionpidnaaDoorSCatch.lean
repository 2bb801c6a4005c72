/- The function that items defers: what a reader that gives up leaves. Condition: the reader lies in memory. -/
import Derived.Test.YtnbhgjionpidnaaDoorSEnd
import Derived.Test.YtnbhgjionpidnaaDoorStableH
import Derived.Tactics
import Derived.Tactics2
import Derived.Defers
import Derived.Recover
import Derived.Deep.AppendLies
namespace Go.Proofs.YtnbhgjionpidnaaDoor
open Go.RowKit

theorem info_item : (Tryd.prog.info? 56).map (fun i => (i.zero, i.size, i.bytes)) = some (some (.agg #[.int .i64 0, .string ⟨#[]⟩, .int .i64 0]), 3, 32) := by kernel_rfl
/-- A row of items. -/
def itsL (l : List ItM) : List Value := (l.map fun i => [.int .i64 (i.kind : Nat), .string i.text, .int .i64 (i.code : Nat)]).flatten
theorem itsL_one (l : List ItM) (i : ItM) : itsL (l ++ [i]) = itsL l ++ [.int .i64 (i.kind : Nat), .string i.text, .int .i64 (i.code : Nat)] := by
  unfold itsL
  rw [List.map_append, List.flatten_append]
  rfl
theorem run_assert_want (t : TypeId) (v : Value) (w : World) : (Instr.typeAssert (.iface 77 v) t 77 true).run Tryd.prog w = .ok (.tuple #[v, .bool true]) w := by
  simp [Instr.typeAssert, Sem.run_bind, run_underlying Tryd.underlying77]
theorem run_assert_wrong (t : TypeId) (v : Value) (w : World) : (Instr.typeAssert (.iface 78 v) t 78 true).run Tryd.prog w = .ok (.tuple #[v, .bool true]) w := by
  simp [Instr.typeAssert, Sem.run_bind, run_underlying Tryd.underlying78]
theorem run_assert_not (t : TypeId) (v : Value) (w : World) : (Instr.typeAssert (.iface 78 v) t 77 true).run Tryd.prog w = .ok (.tuple #[.agg #[], .bool false]) w := by
  obtain ⟨i, hi, hz⟩ : ∃ i, Tryd.prog.info? 77 = some i ∧ i.zero = some (.agg #[]) := ⟨_, rfl, rfl⟩
  simp [Instr.typeAssert, Sem.run_bind, run_underlying Tryd.underlying77, zeroValue, typeInfo, hi, hz]
/-- The reader in memory, and what it has left. -/
def RdL (B gr : Nat) (mk : Bool) (kind : Nat) (text : ByteArray) (l : List Nat) (w : World) : Prop := ∃ A c, Bk w gr 59 (rdC mk (.slice A l.length c) kind text false) ∧ l.length ≤ c ∧ Seg w A (u8s l) ∧ ∀ a, A = some a → a.block < B
def RdA (gr : Nat) (mk : Bool) (A : Option Addr) (n c : Nat) (kind : Nat) (text : ByteArray) (l : List Nat) (w : World) : Prop := Bk w gr 59 (rdC mk (.slice A n c) kind text false) ∧ Seg w A (u8s l)
theorem RdL.lt {B gr : Nat} {mk : Bool} {kind : Nat} {text : ByteArray} {l : List Nat} {w : World} (h : RdL B gr mk kind text l w) : gr < w.heap.size := by
  obtain ⟨A, c, h, _⟩ := h
  exact h.lt
theorem RdL.bel {B gr : Nat} {mk : Bool} {kind : Nat} {text : ByteArray} {l : List Nat} {w w' : World} (h : RdL B gr mk kind text l w) (hb : Below w.heap.size w w') : RdL B gr mk kind text l w' := by
  obtain ⟨A, c, h1, h2, h3, h4⟩ := h
  exact ⟨A, c, h1.bel hb, h2, h3.bel hb, h4⟩
theorem RdA.bel {gr : Nat} {mk : Bool} {A : Option Addr} {n c kind : Nat} {text : ByteArray} {l : List Nat} {w w' : World} (h : RdA gr mk A n c kind text l w) (hb : Below w.heap.size w w') : RdA gr mk A n c kind text l w' := ⟨h.1.bel hb, h.2.bel hb⟩
def cwF (gr : Nat) (mk : Bool) (A : Option Addr) (n c : Nat) (kind : Nat) (text : ByteArray) (l : List Nat) (j : Nat) (v _u : Value) (w : World) : Prop := match j with
  | 0 => v = .pointer (some ⟨gr, 0, none⟩)
  | 1 => v = .pointer (some ⟨gr, 0, none⟩)
  | 2 => v = .pointer (some ⟨gr, 0, none⟩)
  | 3 => v = .pointer (some ⟨gr, 1, none⟩)
  | 4 => v = .slice A n c
  | 5 => ∃ A5 c5, v = .slice A5 n c5 ∧ n ≤ c5 ∧ Seg w A5 (u8s l) ∧ ∀ a, A5 = some a → a.block ≠ gr ∧ a.block < w.heap.size
  | 6 => v = .pointer (some ⟨gr, 0, none⟩)
  | 7 => v = .pointer (some ⟨gr, 1, none⟩)
  | 8 => ∃ B, RdL B gr mk kind text l w ∧ B ≤ w.heap.size
  | _ => True
def cwH (gr : Nat) (mk : Bool) (A : Option Addr) (n c : Nat) (kind : Nat) (text : ByteArray) (l : List Nat) (m : Nat) (w : World) : Prop := match m with
  | 8 => RdA gr mk A n c kind text l w
  | _ => True
def cwG (W : World) (gr g1 : Nat) (w : World) : Prop := KQ gr W w ∧ Bk w g1 37 #[.pointer (some ⟨gr, 0, none⟩)] ∧ gr < w.heap.size
theorem cwG.bel {W w w' : World} {gr g1 : Nat} (h : cwG W gr g1 w) (hb : Below w.heap.size w w') : cwG W gr g1 w' := ⟨h.1.trans (KQ.of_below h.2.2 hb), h.2.1.bel hb, Nat.lt_of_lt_of_le h.2.2 hb.size⟩
theorem cwF_bel {gr : Nat} {mk : Bool} {A : Option Addr} {n c kind : Nat} {text : ByteArray} {l : List Nat} {w w' : World} (hb : Below w.heap.size w w') : ∀ j u u', cwF gr mk A n c kind text l j u u' w → cwF gr mk A n c kind text l j u u' w' := by
  intro j u u' h
  unfold cwF at *
  split at h <;> first | exact h | (obtain ⟨B, h1, h2⟩ := h; exact ⟨B, h1.bel hb, Nat.le_trans h2 hb.size⟩) | (obtain ⟨A5, c5, h1, h2, h3, h4⟩ := h; exact ⟨A5, c5, h1, h2, h3.bel hb, fun a e => ⟨(h4 a e).1, Nat.lt_of_lt_of_le (h4 a e).2 hb.size⟩⟩)
theorem cwH_bel {gr : Nat} {mk : Bool} {A : Option Addr} {n c kind : Nat} {text : ByteArray} {l : List Nat} {w w' : World} (hb : Below w.heap.size w w') : ∀ m, cwH gr mk A n c kind text l m w → cwH gr mk A n c kind text l m w' := by
  intro m h
  unfold cwH at *
  split at h <;> first | exact h | exact h.bel hb
theorem cwF_set {gr : Nat} {mk : Bool} {A : Option Addr} {n c kind : Nat} {text : ByteArray} {l : List Nat} {w : World} (i : Nat) (x : Value) : ∀ j, j ≠ 8 → ∀ u u', cwF gr mk A n c kind text l j u u' w → cwF gr mk A n c kind text l j u u' (w.setCell ⟨gr, i, none⟩ x) := by
  intro j hj u u' h
  unfold cwF at *
  split at h <;> first | exact h | exact absurd rfl hj | (obtain ⟨A5, c5, h1, h2, h3, h4⟩ := h; exact ⟨A5, c5, h1, h2, h3.kept (Kept1.set w gr i x) (fun a e => (h4 a e).1), fun a e => ⟨(h4 a e).1, by simpa using (h4 a e).2⟩⟩)
theorem cwH_set {gr : Nat} {mk : Bool} {A : Option Addr} {n c kind : Nat} {text : ByteArray} {l : List Nat} {w : World} (i : Nat) (x : Value) : ∀ m, m ≠ 8 → cwH gr mk A n c kind text l m w → cwH gr mk A n c kind text l m (w.setCell ⟨gr, i, none⟩ x) := by
  intro m hm h
  unfold cwH at *
  split at h <;> first | exact h | exact absurd rfl hm
def wantV : Value := .iface 77 (.agg #[])
set_option maxRecDepth 100000 in
set_option maxHeartbeats 2000000 in
theorem catch_want (g1 g2 gr : Nat) (mk : Bool) (A : Option Addr) (n c kind : Nat) (text : ByteArray) (l : List Nat) (hn : n = l.length) (hc : n ≤ c) (hz : n ≤ 1000000) (older : List PanicEntry) (w : World) (hb1 : Bk w g1 37 #[.pointer (some ⟨gr, 0, none⟩)]) (hr : RdA gr mk A n c kind text l w) (hne : g1 ≠ gr) :
    CallsD Tryd.prog 41 #[.pointer (some ⟨g1, 0, none⟩), .pointer (some ⟨g2, 0, none⟩)] (.panicking ({ v := .iface 77 (.agg #[]), recovered := false } :: older)) w fun e u' w' =>
      e = .returned (.tuple #[]) ∧ u' = .panicking ({ v := .iface 77 (.agg #[]), recovered := true } :: older) ∧ KQ gr w w' ∧ ∃ B, RdL B gr mk kind text l w' ∧ B ≤ w'.heap.size := by
  have hta := run_assert_want
  obtain ⟨wx, hwx⟩ : ∃ wx, wx = w.alloc (.cells #[] 77) := ⟨_, rfl⟩
  have al : Below w.heap.size w wx := by rw [hwx]; exact (Below.refl _ _).alloc (Nat.le_refl _) _
  have HG := Lib.hid (show cwG w gr g1 wx.drew from ⟨KQ.of_below hr.1.lt al.drew, hb1.bel al.drew, Nat.lt_of_lt_of_le hr.1.lt al.drew.size⟩)
  have HH := Lib.hid (show ∀ m, m < 9 → cwH gr mk A n c kind text l m wx.drew from fun m _ => by
    unfold cwH
    split
    · exact hr.bel al.drew
    · trivial)
  have HN := Lib.hid hn
  have HC := Lib.hid hc
  have HZ := Lib.hid hz
  have HNE := Lib.hid hne
  have HWX := Lib.hid hwx
  have b1x := hb1.bel al
  clear hn hc hz hb1 hr hwx al hne
  refine callsD_of_wpS Tryd.func41 rfl fun c₀ cs hu => ?_
  apply wpS_seq
  apply wpS_region
  simp only [Tryd.ntmps41, List.size_toArray, List.length_cons, List.length_nil, Nat.reduceAdd, Nat.reduceSub, Array.replicate_succ,
     Array.replicate_zero, List.push_toArray, List.append_toArray, List.nil_append, List.cons_append]
  simp [wpOpsS, go_sem, recoverD, hu, Exit.thenS]
  refine wpS_of_wp ?_
  go_upto_region 7 with fail
  rw [← HWX.out]
  refine wp_region_late [some 12, some 13, some 14, some 15, some 16, some 17, some 18, some 19, none] (fun _ => 0) (cwF gr mk A n c kind text l) (cwG w gr g1) (cwH gr mk A n c kind text l) (by kernel_rfl) HG.out HH.out rfl (by kernel_rfl) (by kernel_rfl) (by kernel_rfl) (by kernel_rfl) (fun T hT => ?_)
  try simp only [List.filterMap_cons, List.filterMap_nil, id, putsS, Act.put, List.setIfInBounds_toArray, List.set_cons_zero, List.set_cons_succ] at hT
  subst hT
  refine ⟨⟨?_, ?_, ?_, ?_, ?_, ?_, ?_, ?_, ?_, trivial⟩, ?_⟩
  · -- 0: Op.load 37 t0
    intro f w1 hG hO hL hF K hK
    clear hF hO hL
    dsimp only at hK ⊢
    have y0 : w1.cell? ⟨g1, 0, none⟩ = some (.pointer (some ⟨gr, 0, none⟩)) := hG.2.1.cell 0
    go_simp
    exact hK.out _ _ hG rfl (fun _ _ _ h => h) (fun _ _ h => h)
  · -- 1: Op.load 37 t0
    intro f w1 hG hO hL hF K hK
    clear hF hO hL
    dsimp only at hK ⊢
    have y0 : w1.cell? ⟨g1, 0, none⟩ = some (.pointer (some ⟨gr, 0, none⟩)) := hG.2.1.cell 0
    go_simp
    exact hK.out _ _ hG rfl (fun _ _ _ h => h) (fun _ _ h => h)
  · -- 2: Op.nilCheck t13
    intro f w1 hG hO hL hF K hK
    have d1 : (cwF gr mk A n c kind text l) 1 (f 13) (f 0) w1 := hF 1 (by kernel_rfl)
    clear hF hO hL
    dsimp only at hK ⊢
    generalize hf13 : f 13 = v13 at *
    subst d1
    go_simp
    exact hK.out _ _ hG rfl (fun _ _ _ h => h) (fun _ _ h => h)
  · -- 3: Op.fieldAddr 59 t14 1
    intro f w1 hG hO hL hF K hK
    have d2 : (cwF gr mk A n c kind text l) 2 (f 14) (f 0) w1 := hF 2 (by kernel_rfl)
    clear hF hO hL
    dsimp only at hK ⊢
    generalize hf14 : f 14 = v14 at *
    subst d2
    go_simp
    exact hK.out _ _ hG rfl (fun _ _ _ h => h) (fun _ _ h => h)
  · -- 4: Op.load 25 t15
    intro f w1 hG hO hL hF K hK
    have l8 : (cwH gr mk A n c kind text l) 8 w1 := hL 8 (Nat.le_of_ble_eq_true (by kernel_rfl)) (by kernel_rfl)
    have d3 : (cwF gr mk A n c kind text l) 3 (f 15) (f 0) w1 := hF 3 (by kernel_rfl)
    clear hF hO hL
    dsimp only at hK ⊢
    generalize hf15 : f 15 = v15 at *
    subst d3
    have y1 : w1.cell? ⟨gr, 1, none⟩ = some (.slice A n c) := l8.1.cell 1
    go_simp
    exact hK.out _ _ hG rfl (fun _ _ _ h => h) (fun _ _ h => h)
  · -- 5: Op.call ( value (Operand.func 35), args := #[t16], argTypes := #[25] )
    intro f w1 hG hO hL hF K hK
    have l8 : (cwH gr mk A n c kind text l) 8 w1 := hL 8 (Nat.le_of_ble_eq_true (by kernel_rfl)) (by kernel_rfl)
    have d4 : (cwF gr mk A n c kind text l) 4 (f 16) (f 0) w1 := hF 4 (by kernel_rfl)
    clear hF hO hL
    dsimp only at hK ⊢
    generalize hf16 : f 16 = v16 at *
    subst d4
    go_simp
    refine (bclone_any A n c l HN.out HC.out HZ.out w1 l8.2).mono ?_
    rintro e w21 ⟨⟨v, rfl, ho⟩, hb⟩
    obtain ⟨A5, c5, rfl, h5, hs5⟩ := own_shape ho
    exact hK.out _ _ (cwG.bel hG hb) ⟨A5, c5, rfl, h5, hs5, fun a e => by subst e; have h1 := ho.lt a.block rfl; have h2 := hG.2.2; exact ⟨by omega, h1.2⟩⟩ (fun j _ _ h => cwF_bel hb j _ _ h) (fun m _ h => cwH_bel hb m h)
  · -- 6: Op.nilCheck t12
    intro f w1 hG hO hL hF K hK
    have d0 : (cwF gr mk A n c kind text l) 0 (f 12) (f 0) w1 := hF 0 (by kernel_rfl)
    clear hF hO hL
    dsimp only at hK ⊢
    generalize hf12 : f 12 = v12 at *
    subst d0
    go_simp
    exact hK.out _ _ hG rfl (fun _ _ _ h => h) (fun _ _ h => h)
  · -- 7: Op.fieldAddr 59 t18 1
    intro f w1 hG hO hL hF K hK
    have d6 : (cwF gr mk A n c kind text l) 6 (f 18) (f 0) w1 := hF 6 (by kernel_rfl)
    clear hF hO hL
    dsimp only at hK ⊢
    generalize hf18 : f 18 = v18 at *
    subst d6
    go_simp
    exact hK.out _ _ hG rfl (fun _ _ _ h => h) (fun _ _ h => h)
  · -- 8: Op.store 25 t19 t17
    intro f w1 hG hO hL hF K hK
    have l8 : (cwH gr mk A n c kind text l) 8 w1 := hL 8 (Nat.le_of_ble_eq_true (by kernel_rfl)) (by kernel_rfl)
    have d7 : (cwF gr mk A n c kind text l) 7 (f 19) (f 0) w1 := hF 7 (by kernel_rfl)
    have d5 : (cwF gr mk A n c kind text l) 5 (f 17) (f 0) w1 := hF 5 (by kernel_rfl)
    clear hF hO hL
    dsimp only at hK ⊢
    generalize hf19 : f 19 = v19 at *
    generalize hf17 : f 17 = v17 at *
    subst d7
    obtain ⟨A5, c5, rfl, h5, hs5, ha5⟩ := d5
    have y7 : w1.cell? ⟨gr, 1, none⟩ = some (.slice A n c) := l8.1.cell 1
    have z7 := l8.1.frozen 1
    have hN := l8.1.put 1 (.slice A5 n c5)
    unfold rdC at hN
    simp only [List.setIfInBounds_toArray, List.set_cons_zero, List.set_cons_succ] at hN
    have hR : ∃ B, RdL B gr mk kind text l (w1.setCell ⟨gr, 1, none⟩ (.slice A5 n c5)) ∧ B ≤ (w1.setCell ⟨gr, 1, none⟩ (.slice A5 n c5)).heap.size := by
      refine ⟨_, ⟨A5, c5, ?_, by rw [← HN.out]; exact h5, hs5.kept (Kept1.set w1 gr 1 _) (fun a e => (ha5 a e).1), fun a e => (ha5 a e).2⟩, by simp⟩
      rw [← HN.out]
      exact hN
    have hGG : cwG w gr g1 (w1.setCell ⟨gr, 1, none⟩ (.slice A5 n c5)) := ⟨hG.1.trans (KQ.set gr 1 w1 _), hG.2.1.far (p := ⟨gr, 1, none⟩) HNE.out _, by simpa using hG.2.2⟩
    clear hN hs5 ha5
    go_simp
    exact hK.out undef _ hGG hR (fun j hj _ h => cwF_set 1 _ j hj _ _ h) (fun m hm h => cwH_set 1 _ m hm h)
  intro f w7 hG hF
  have d8 : ∃ B, RdL B gr mk kind text l w7 ∧ B ≤ w7.heap.size := hF 8 (by decide)
  clear hF
  dsimp only
  generalize f 12 = v12
  generalize f 13 = v13
  generalize f 14 = v14
  generalize f 15 = v15
  generalize f 16 = v16
  generalize f 17 = v17
  generalize f 18 = v18
  generalize f 19 = v19
  go_wp2
  simp [bodyPostS, results, Tryd.results41, go_sem]
  exact ⟨hG.1, d8⟩
set_option maxRecDepth 100000 in
theorem catch_idle (g1 g2 : Nat) (w : World) :
    CallsD Tryd.prog 41 #[.pointer (some ⟨g1, 0, none⟩), .pointer (some ⟨g2, 0, none⟩)] .returning w fun e u' w' =>
      e = .returned (.tuple #[]) ∧ u' = .returning ∧ w' = w := by
  refine callsD_of_wpS Tryd.func41 rfl fun c₀ cs hu => ?_
  apply wpS_seq
  apply wpS_region
  simp only [Tryd.ntmps41, List.size_toArray, List.length_cons, List.length_nil, Nat.reduceAdd, Nat.reduceSub, Array.replicate_succ,
     Array.replicate_zero, List.push_toArray, List.append_toArray, List.nil_append, List.cons_append]
  simp [wpOpsS, go_sem, recoverD, hu, Exit.thenS]
  refine wpS_of_wp ?_
  go_wp2
  cases c₀
  simp_all [bodyPostS, results, Tryd.results41]
end Go.Proofs.YtnbhgjionpidnaaDoor
