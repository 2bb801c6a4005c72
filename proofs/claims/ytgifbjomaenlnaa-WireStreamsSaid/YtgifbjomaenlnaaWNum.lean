/- A whole number is written in groups of seven bits. Condition: the row is one's own. -/
import Derived.Test.YtgifbjomaenlnaaWM
import Derived.Laws.BitsAllLaws
import Derived.IntWalk
import Derived.Maps.AppendAt
namespace Go.Proofs.Ytgifbjomaenlnaa
open Go.RowKit

theorem or128 (u : Nat) : bits .or .u8 ((u : Int) % 256) 128 = ((u % 128 + 128 : Nat) : Int) := by
  have h : ∀ x, x < 256 → x ||| 128 = x % 128 + 128 := by decide +kernel
  rw [show (u : Int) % 256 = ((u % 256 : Nat) : Int) by omega, show (128 : Int) = ((128 : Nat) : Int) from rfl, u8_or_nat _ _ (by omega) (by omega), h _ (by omega)]
  congr 1
  omega
theorem zig_pos {z : Int} (h0 : 0 ≤ z) (h1 : z ≤ 9223372036854775807) : bits .xor .u64 (z * 2) (z / 9223372036854775808) = ((zigN z : Nat) : Int) := by
  have e1 : z / 9223372036854775808 = ((0 : Nat) : Int) := by omega
  have e2 : z * 2 = ((zigN z : Nat) : Int) := by unfold zigN; rw [if_neg (by omega)]; omega
  rw [e1, e2, u64_xor_nat _ _ (zigN_lt ⟨by omega, h1⟩) (by omega), Nat.xor_zero]
theorem not64 (a : Nat) (ha : a < 18446744073709551616) : bits .xor .u64 (a : Int) ((18446744073709551615 : Nat) : Int) = ((18446744073709551615 - a : Nat) : Int) := by
  show IntKind.u64.wrap ((BitVec.ofInt 64 (a : Int) ^^^ BitVec.ofInt 64 ((18446744073709551615 : Nat) : Int)).toNat : Int) = _
  rw [show BitVec.ofInt 64 ((18446744073709551615 : Nat) : Int) = BitVec.allOnes 64 by decide, BitVec.xor_allOnes, BitVec.toNat_not, ofInt_u64 a ha, IntKind.wrap_u64]
  omega
theorem zig_neg {z : Int} (h0 : z < 0) (h1 : -9223372036854775808 ≤ z) : bits .xor .u64 (IntKind.u64.wrap (IntKind.u64.wrap z * 2)) (IntKind.u64.wrap (z / 9223372036854775808)) = ((zigN z : Nat) : Int) := by
  have e1 : IntKind.u64.wrap (z / 9223372036854775808) = ((18446744073709551615 : Nat) : Int) := by rw [IntKind.wrap_u64]; omega
  have e2 : IntKind.u64.wrap (IntKind.u64.wrap z * 2) = ((18446744073709551615 - zigN z : Nat) : Int) := by
    rw [IntKind.wrap_u64, IntKind.wrap_u64]
    unfold zigN
    rw [if_pos h0]
    omega
  have e3 := zigN_lt (n := z) ⟨h1, by omega⟩
  rw [e1, e2, not64 _ (by omega)]
  congr 1
  omega
/-- A row of one's own has grown by appends: nothing else that was there has changed. -/
structure Gr (w : World) (v : Value) (w' : World) (v' : Value) : Prop where
  size : w.heap.size ≤ w'.heap.size
  block : ∀ b, b < w.heap.size → v.ownBlock ≠ some b → w'.heap[b]? = w.heap[b]?
  at_ : v'.ownBlock = v.ownBlock ∨ ∀ b, v'.ownBlock = some b → w.heap.size ≤ b
theorem Gr.refl (w : World) (v : Value) : Gr w v w v := ⟨Nat.le_refl _, fun _ _ _ => rfl, Or.inl rfl⟩
theorem Gr.alloc {w w' : World} {v v' : Value} (h : Gr w v w' v') (o : Obj) : Gr w v (w'.alloc o) v' :=
  ⟨by rw [World.size_alloc]; have := h.size; omega, fun b hb hn => (Below.heap_alloc w' o b (Nat.lt_of_lt_of_le hb h.size)).trans (h.block b hb hn), h.at_⟩
theorem Gr.app {w w' w'' : World} {v v' v'' : Value} (h : Gr w v w' v') (hg : w'.grownBy w'' v'.ownBlock) (hat : v''.ownBlock = v'.ownBlock ∨ v''.ownBlock = some w'.heap.size) : Gr w v w'' v'' := by
  refine ⟨Nat.le_trans h.size hg.size, fun b hb hn => ?_, ?_⟩
  · rw [hg.block b (Nat.lt_of_lt_of_le hb h.size) (fun e => ?_)]
    · exact h.block b hb hn
    · rcases h.at_ with h1 | h1
      · rw [h1] at e; exact hn e.symm
      · have := h1 b e.symm; omega
  · rcases hat with h2 | h2
    · rw [h2]; exact h.at_
    · right
      intro b e
      rw [h2] at e
      injection e with e
      have := h.size
      omega
theorem Gr.bk {w w' : World} {v v' : Value} {base n g : Nat} {e t : TypeId} {xs : List Value} {cs : Array Value} (h : Gr w v w' v') (ho : w.ownsRow base e 1 v n xs) (hb : Bk w g t cs) (hte : e ≠ t) : Bk w' g t cs := by
  refine (h.block g hb.lt (fun hv => ?_)).trans hb
  rcases ho.2 with ⟨rfl, _⟩ | ⟨g', cap, cur, rfl, _, hc, _⟩
  · cases hv
  · injection hv with hv
    change g' = g at hv
    subst hv
    unfold Bk at hb
    rw [hc] at hb
    injection hb with hb
    injection hb with _ h2
    exact hte h2
/-- Where the loop stands. -/
def NuR (base n : Nat) (xs : List Value) (U : Nat) (w : World) (v0 : Value) (y : Nat) (v : Value) (wr : World) : Prop :=
  ∃ (f : Nat) (done : List Nat), y < 128 ^ (f + 1) ∧ f ≤ 9 ∧ done.length ≤ 9 - f ∧ done ++ varF f y = varF 9 U ∧ wr.ownsRow base 5 1 v (n + done.length) (xs ++ u8s done) ∧ Below base w wr ∧ Gr w v0 wr v
set_option maxRecDepth 100000 in
theorem appendNumber_any (base n : Nat) (v : Value) (xs : List Value) (z : Int) (hz : inI z) (w : World) (ho : w.ownsRow base 5 1 v n xs) (hb : base ≤ w.heap.size) (hn : n ≤ 140737488350000) :
    Calls Try.prog 33 #[v, .int .i64 z] w fun e w' => ∃ v', e = .returned v' ∧ w'.ownsRow base 5 1 v' (n + (numN z).length) (xs ++ u8s (numN z)) ∧ Below base w w' ∧ Gr w v w' v' := by
  obtain ⟨i0, hi0, hz0, hz1, hz2⟩ := info_parts info5
  obtain ⟨h1, h2⟩ := hz
  have hU := zigN_lt (n := z) ⟨h1, h2⟩
  have hst : NuR base n xs (zigN z) w v (zigN z) v w := ⟨9, [], by have : (128 : Nat) ^ (9 + 1) = 1180591620717411303424 := rfl; omega, Nat.le_refl _, by simp, rfl, by simpa [u8s] using ho, Below.refl _ _, Gr.refl _ _⟩
  have HS := Lib.hid hst
  unfold numN
  obtain ⟨A, c, rfl, hc, _⟩ := own_shape ho
  have body : ∀ U : Nat, U < 18446744073709551616 → True := fun _ _ => trivial
  clear ho hst body
  by_cases hneg : 0 ≤ z
  · have p := zig_pos hneg h2
    generalize zigN z = U at *
    go_enter Try.func33, Try.ntmps33
    go_wp2_with fail
    clear p hneg
    go_loopw [0, 5] (fun v u wr => ∃ y : Nat, u = .int .u64 (y : Int) ∧ y < 18446744073709551616 ∧ NuR base n xs U w (.slice A n c) y v wr) (fun _ u _ => (intOf u).toNat)
    case atStart => exact ⟨U, rfl, hU, HS.out⟩
    case round =>
      clear HS
      obtain ⟨y, rfl, hy, f, done, hyf, hf, hdl, hd, hown, hbw, hgr⟩ := hrel
      obtain ⟨A2, c2, rfl, hc2, _⟩ := own_shape hown
      have HO := Lib.hid hown
      have HB := Lib.hid hbw
      have HGr := Lib.hid hgr
      have hsz := hbw.size
      have HD := Lib.hid hd
      clear hown hbw hd hgr
      by_cases h128 : 128 ≤ y
      · rcases f with _ | f
        · simp at hyf; omega
        have hst : varF (f + 1) y = (y % 128 + 128) :: varF f (y / 128) := by show (if y < 128 then [y] else (y % 128 + 128) :: varF f (y / 128)) = _; rw [if_neg (by omega)]
        have HD2 := Lib.hid (show (done ++ [y % 128 + 128]) ++ varF f (y / 128) = varF 9 U by rw [← HD.out, hst]; simp)
        have hyq : y / 128 < 128 ^ (f + 1) := by rw [Nat.pow_succ] at hyf; omega
        have HYQ := Lib.hid hyq
        have o := or128 y
        have i1 : (128 : Int) ≤ (y : Int) := by omega
        clear hst hyf hyq HD
        go_wp2_with (at_builtin; refine wpList_append_own_at _ rfl (.tmp 15) (.tmp 19) 26 rfl base 5 i0 (.int .u8 0) 1 1 Try.underlying26 hi0 hz0 hz1 hz2 rfl (by decide) (.slice A2 (n + done.length) c2) (n + done.length) _ rfl (own_alloc HO.out _) ⟨wr.heap.size, 0, none⟩ 1 1 [.int .u8 ((y % 128 + 128 : Nat) : Int)] rfl rfl (cell_one_new _ _ _) (by simp [Value.oneCell']) (by simp only [maxLen]; omega) (by omega) (by simp only [World.size_alloc]; omega) ?_; intro v' w' hown' hgrow' _ hat'; have hb' := (Below.refl base _).grown hgrow' (by simp only [World.size_alloc]; omega) (fun j e => (HO.out.lt j e).1); have hg' := Lib.hid ((HGr.out.alloc _).app hgrow' hat'))
        have HN := Lib.hid (show NuR base n xs U w (.slice A n c) (y / 128) v' w' from ⟨f, done ++ [y % 128 + 128], HYQ.out, by omega, by simp; omega, HD2.out, by
          rw [List.length_append, List.length_singleton, show u8s (done ++ [y % 128 + 128]) = u8s done ++ [Value.int .u8 ((y % 128 + 128 : Nat) : Int)] by simp [u8s], ← List.append_assoc]
          exact hown', (HB.out.alloc (by omega) _).trans hb', hg'.out⟩)
        clear hown' hb' hg' hgrow' hat' o
        go_roundw
        case rel => exact ⟨y / 128, by simp, by omega, HN.out⟩
        case measure => simp [intOf]; omega
      · have hst : varF f y = [y] := by
          cases f with
          | zero => rfl
          | succ f => unfold varF; rw [if_pos (by omega)]
        have HD2 := Lib.hid (show done ++ [y] = varF 9 U by rw [← HD.out, hst])
        have i1 : ¬ (128 : Int) ≤ (y : Int) := by omega
        clear hst hyf HD
        go_wp2_with (at_builtin; refine wpList_append_own_at _ rfl (.tmp 23) (.tmp 26) 26 rfl base 5 i0 (.int .u8 0) 1 1 Try.underlying26 hi0 hz0 hz1 hz2 rfl (by decide) (.slice A2 (n + done.length) c2) (n + done.length) _ rfl (own_alloc HO.out _) ⟨wr.heap.size, 0, none⟩ 1 1 [.int .u8 (y : Int)] rfl rfl (cell_one_new _ _ _) (by simp [Value.oneCell']) (by simp only [maxLen]; omega) (by omega) (by simp only [World.size_alloc]; omega) ?_; intro v' w' hown' hgrow' _ hat'; have hb' := (Below.refl base _).grown hgrow' (by simp only [World.size_alloc]; omega) (fun j e => (HO.out.lt j e).1); have hg' := Lib.hid ((HGr.out.alloc _).app hgrow' hat'))
        have HN := Lib.hid (show w'.ownsRow base 5 1 v' (n + (varF 9 U).length) (xs ++ u8s (varF 9 U)) by
          rw [← HD2.out, List.length_append, List.length_singleton, show u8s (done ++ [y]) = u8s done ++ [Value.int .u8 (y : Int)] by simp [u8s], ← List.append_assoc]
          exact hown')
        have HB2 := Lib.hid ((HB.out.alloc (by omega) (.cells #[.int .u8 (y : Int)] 5)).trans hb')
        clear hown' hb' hgrow' hat'
        go_ret
        exact ⟨v', rfl, HN.out, HB2.out, hg'.out⟩
  · have p := zig_neg (by omega) h1
    generalize zigN z = U at *
    go_enter Try.func33, Try.ntmps33
    go_wp2_with fail
    clear p hneg
    go_loopw [0, 5] (fun v u wr => ∃ y : Nat, u = .int .u64 (y : Int) ∧ y < 18446744073709551616 ∧ NuR base n xs U w (.slice A n c) y v wr) (fun _ u _ => (intOf u).toNat)
    case atStart => exact ⟨U, rfl, hU, HS.out⟩
    case round =>
      clear HS
      obtain ⟨y, rfl, hy, f, done, hyf, hf, hdl, hd, hown, hbw, hgr⟩ := hrel
      obtain ⟨A2, c2, rfl, hc2, _⟩ := own_shape hown
      have HO := Lib.hid hown
      have HB := Lib.hid hbw
      have HGr := Lib.hid hgr
      have hsz := hbw.size
      have HD := Lib.hid hd
      clear hown hbw hd hgr
      by_cases h128 : 128 ≤ y
      · rcases f with _ | f
        · simp at hyf; omega
        have hst : varF (f + 1) y = (y % 128 + 128) :: varF f (y / 128) := by show (if y < 128 then [y] else (y % 128 + 128) :: varF f (y / 128)) = _; rw [if_neg (by omega)]
        have HD2 := Lib.hid (show (done ++ [y % 128 + 128]) ++ varF f (y / 128) = varF 9 U by rw [← HD.out, hst]; simp)
        have hyq : y / 128 < 128 ^ (f + 1) := by rw [Nat.pow_succ] at hyf; omega
        have HYQ := Lib.hid hyq
        have o := or128 y
        have i1 : (128 : Int) ≤ (y : Int) := by omega
        clear hst hyf hyq HD
        go_wp2_with (at_builtin; refine wpList_append_own_at _ rfl (.tmp 15) (.tmp 19) 26 rfl base 5 i0 (.int .u8 0) 1 1 Try.underlying26 hi0 hz0 hz1 hz2 rfl (by decide) (.slice A2 (n + done.length) c2) (n + done.length) _ rfl (own_alloc HO.out _) ⟨wr.heap.size, 0, none⟩ 1 1 [.int .u8 ((y % 128 + 128 : Nat) : Int)] rfl rfl (cell_one_new _ _ _) (by simp [Value.oneCell']) (by simp only [maxLen]; omega) (by omega) (by simp only [World.size_alloc]; omega) ?_; intro v' w' hown' hgrow' _ hat'; have hb' := (Below.refl base _).grown hgrow' (by simp only [World.size_alloc]; omega) (fun j e => (HO.out.lt j e).1); have hg' := Lib.hid ((HGr.out.alloc _).app hgrow' hat'))
        have HN := Lib.hid (show NuR base n xs U w (.slice A n c) (y / 128) v' w' from ⟨f, done ++ [y % 128 + 128], HYQ.out, by omega, by simp; omega, HD2.out, by
          rw [List.length_append, List.length_singleton, show u8s (done ++ [y % 128 + 128]) = u8s done ++ [Value.int .u8 ((y % 128 + 128 : Nat) : Int)] by simp [u8s], ← List.append_assoc]
          exact hown', (HB.out.alloc (by omega) _).trans hb', hg'.out⟩)
        clear hown' hb' hg' hgrow' hat' o
        go_roundw
        case rel => exact ⟨y / 128, by simp, by omega, HN.out⟩
        case measure => simp [intOf]; omega
      · have hst : varF f y = [y] := by
          cases f with
          | zero => rfl
          | succ f => unfold varF; rw [if_pos (by omega)]
        have HD2 := Lib.hid (show done ++ [y] = varF 9 U by rw [← HD.out, hst])
        have i1 : ¬ (128 : Int) ≤ (y : Int) := by omega
        clear hst hyf HD
        go_wp2_with (at_builtin; refine wpList_append_own_at _ rfl (.tmp 23) (.tmp 26) 26 rfl base 5 i0 (.int .u8 0) 1 1 Try.underlying26 hi0 hz0 hz1 hz2 rfl (by decide) (.slice A2 (n + done.length) c2) (n + done.length) _ rfl (own_alloc HO.out _) ⟨wr.heap.size, 0, none⟩ 1 1 [.int .u8 (y : Int)] rfl rfl (cell_one_new _ _ _) (by simp [Value.oneCell']) (by simp only [maxLen]; omega) (by omega) (by simp only [World.size_alloc]; omega) ?_; intro v' w' hown' hgrow' _ hat'; have hb' := (Below.refl base _).grown hgrow' (by simp only [World.size_alloc]; omega) (fun j e => (HO.out.lt j e).1); have hg' := Lib.hid ((HGr.out.alloc _).app hgrow' hat'))
        have HN := Lib.hid (show w'.ownsRow base 5 1 v' (n + (varF 9 U).length) (xs ++ u8s (varF 9 U)) by
          rw [← HD2.out, List.length_append, List.length_singleton, show u8s (done ++ [y]) = u8s done ++ [Value.int .u8 (y : Int)] by simp [u8s], ← List.append_assoc]
          exact hown')
        have HB2 := Lib.hid ((HB.out.alloc (by omega) (.cells #[.int .u8 (y : Int)] 5)).trans hb')
        clear hown' hb' hgrow' hat'
        go_ret
        exact ⟨v', rfl, HN.out, HB2.out, hg'.out⟩
end Go.Proofs.Ytgifbjomaenlnaa
