/- The journal statements' own trial: it says true, and leaves what was there. No condition. -/
import Derived.Test.YtmgbmnbjionapaaJComm
import Derived.Test.YtmgbmnbjionapaaJFits
import Derived.Test.YtmgbmnbjionapaaJOpen
import Derived.Test.YtmgbmnbjionapaaSame
namespace Go.Proofs.Ytmgbmnbjionapaa
open Go.RowKit

def nine : List Nat := [0, 0, 0, 0, 0, 9] ++ List.replicate 250 0
theorem cast_inj' {xs ys : List Nat} (h : (xs.map fun (x : Nat) => (x : Int)) = ys.map fun (x : Nat) => (x : Int)) : xs = ys := by
  induction xs generalizing ys with
  | nil => cases ys with
    | nil => rfl
    | cons _ _ => cases h
  | cons x xs ih => cases ys with
    | nil => cases h
    | cons y ys =>
      injection h with h1 h2
      rw [Int.ofNat_inj.1 h1, ih h2]
theorem u8s_cast (l : List Nat) : (l.map fun (x : Nat) => (x : Int)).map (Value.int .u8) = u8s l := by
  unfold u8s
  rw [List.map_map]
  rfl
theorem same_bytes (A A' : Option Addr) (c c' n m : Nat) (xs ys : List Nat) (w : World) (hn : n = xs.length) (hm : m = ys.length) (hA : Seg w A (u8s xs)) (hA' : Seg w A' (u8s ys)) (hx : xs.length ≤ 140737488355328) (hy : ys.length ≤ 140737488355328) :
    Calls Try.prog 18 #[.slice A n c, .slice A' m c'] w fun e w' => e = .returned (.bool (decide (xs = ys))) ∧ Below w.heap.size w w' := by
  have h := same_any A A' c c' (xs.map fun (x : Nat) => (x : Int)) (ys.map fun (x : Nat) => (x : Int)) w (by rw [u8s_cast]; exact hA) (by rw [u8s_cast]; exact hA') (by rw [List.length_map]; exact hx) (by rw [List.length_map]; exact hy)
  rw [List.length_map, List.length_map, ← hn, ← hm] at h
  have e : decide ((xs.map fun (x : Nat) => (x : Int)) = ys.map fun (x : Nat) => (x : Int)) = decide (xs = ys) := by
    by_cases hh : xs = ys
    · rw [decide_eq_true hh, decide_eq_true (by rw [hh])]
    · rw [decide_eq_false hh, decide_eq_false (fun he => hh (cast_inj' he))]
  rwa [e] at h
set_option maxRecDepth 100000 in
set_option maxHeartbeats 4000000 in
theorem awake_any (w : World) : Calls Try.prog 29 #[] w fun e w' => e = .returned (.bool true) ∧ Below w.heap.size w w' := by
  have hf : Fits ((20 : Nat) : Int) ((0 : Nat) : Int) ((10 : Nat) : Int) := by unfold Fits; omega
  have CN : Calls Try.prog 25 #[.int .i64 20] w fun e w' => ∃ p S, e = .returned (.tuple #[.pointer (some ⟨p, 0, none⟩), .int .i64 0]) ∧ Dsk w' S p 20 (DM.new 20) ∧ (∀ i, S i → w.heap.size ≤ i) ∧ Below w.heap.size w w' := new_ok 20 (by omega) (by omega) w
  have CN := Lib.hid CN
  have hmk : ∀ w : World, (Instr.makeSlice 26 (.int .i64 256) (.int .i64 256)).run Try.prog w = .ok (.slice (some ⟨w.heap.size, 0, none⟩) 256 256) (w.alloc (.cells (madeCells #[.int .u8 0] 256) 5)) := make_bytes 256 (by omega)
  have HF := Lib.hid hf
  clear hf
  go_enter Try.func29, Try.ntmps29
  go_wp2_with fail
  refine CN.out.mono ?_
  rintro e w1 ⟨p, S, rfl, hD, hS, hb⟩
  have CF : Calls Try.prog 31 #[.pointer (some ⟨p, 0, none⟩), .int .i64 0, .int .i64 10] w1 fun e w' => e = .returned (.int .i64 0) ∧ ∃ S', Dsk w' S' p 20 ((DM.new 20).land [(0, headN 0 10 0 0)]) ∧ Kp S S' w1 w' := format_ok p 20 0 10 S (DM.new 20) w1 hD rfl rfl HF.out
  have CF := Lib.hid CF
  have HS := Lib.hid hS
  have HB := Lib.hid hb
  clear hD hS hb CN
  go_wp2_with fail
  refine CF.out.mono ?_
  rintro e w2 ⟨rfl, S2, hD2, hK2⟩
  have hrd : ((DM.new 20).land [(0, headN 0 10 0 0)]).rd 0 = headN 0 10 0 0 := land_rd (DM.new 20) 20 0 _ (DM.Ok.new 20 (by omega) (by omega)) (by omega) (headN_length ..)
  have HB2 := Lib.hid (HB.out.trans (hK2.below HS.out HB.out.size))
  have HS2 := Lib.hid (fun i h => (hK2.news i h).elim (HS.out i) (fun hge => Nat.le_trans HB.out.size hge) : ∀ i, S2 i → w.heap.size ≤ i)
  have CO : Calls Try.prog 30 #[.pointer (some ⟨p, 0, none⟩), .int .i64 0, .int .i64 10] w2 fun e w' => e = .returned (.tuple #[.pointer (some ⟨w2.heap.size, 0, none⟩), .int .i64 0, .int .i64 0]) ∧ Bk w' w2.heap.size 101 (JrC p 0 10) ∧ Below w2.heap.size w2 w' :=
    open_zero p 20 0 10 S2 _ w2 hD2 HF.out (by rw [hrd]; exact head_lt 0 10 0 0 (by omega) (by omega)) 0 (by rw [hrd]; rfl) (by rw [hrd]; exact head_seq0 0 10 0) (by rw [hrd]; exact head_take ..)
  have CO := Lib.hid CO
  have HD2 := Lib.hid hD2
  have HRD := Lib.hid hrd
  have HOK := Lib.hid hD2.ok
  clear hD2 hK2 CF hrd
  go_wp2_with fail
  refine CO.out.mono ?_
  rintro e w3 ⟨rfl, hJ3, hb3⟩
  have hq3 : ¬ S2 w2.heap.size := fun h => absurd (HD2.out.inn _ h) (Nat.lt_irrefl _)
  obtain ⟨q, hq⟩ : ∃ q, q = w2.heap.size := ⟨_, rfl⟩
  rw [← hq] at hJ3 hq3 ⊢
  have HJ3 := Lib.hid hJ3
  have HQ := Lib.hid hq3
  have HD3 := Lib.hid (HD2.out.bel hb3)
  have HB3 := Lib.hid (HB2.out.trans (hb3.mono HB2.out.size))
  clear hJ3 hq3 hb3 CO HD2 hq
  obtain ⟨w4, hw4⟩ : ∃ w4, w4 = w3.alloc (.cells (madeCells #[.int .u8 0] 256) 5) := ⟨_, rfl⟩
  have X4 : Bk w4 w3.heap.size 5 (u8s (List.replicate 256 0)).toArray := by rw [hw4]; exact bk_zeros w3 256
  have HB34 := Lib.hid (show Below w3.heap.size w3 w4 by rw [hw4]; exact (Below.refl _ _).alloc (Nat.le_refl _) _)
  have x5 : w4.cell? ⟨w3.heap.size, 5, none⟩ = some (.int .u8 0) := by rw [X4.cell 5]; rfl
  have f5 := X4.frozen 5
  have X5 := u8s_put [0, 0, 0, 0, 0] (List.replicate 250 0) 0 9 w3.heap.size w4 X4
  obtain ⟨w5, hw5⟩ : ∃ w5, w5 = w4.setCell ⟨w3.heap.size, 5, none⟩ (.int .u8 9) := ⟨_, rfl⟩
  have X5 : Bk w5 w3.heap.size 5 (u8s nine).toArray := by rw [hw5]; exact X5
  have B35 : Below w3.heap.size w3 w5 := by rw [hw5]; exact HB34.out.setCell (Nat.le_refl _) _
  have HX5 := Lib.hid X5
  have HB35 := Lib.hid B35
  have HW4 := Lib.hid hw4
  have HW5 := Lib.hid hw5
  clear X4 X5 B35 hw4 hw5
  go_upto_region 8 with fail
  rw [← HW4.out]
  go_upto_region 9 with fail
  rw [← HW5.out]
  obtain ⟨w6, hw6⟩ : ∃ w6, w6 = w5.alloc (.cells #[.int .i64 12, .slice (some ⟨w3.heap.size, 0, none⟩) 256 256] 76) := ⟨_, rfl⟩
  have Y6 : Bk w6 w5.heap.size 76 #[.int .i64 12, .slice (some ⟨w3.heap.size, 0, none⟩) 256 256] := by rw [hw6]; exact Bk.new w5 _ _
  have B56 : Below w5.heap.size w5 w6 := by rw [hw6]; exact (Below.refl _ _).alloc (Nat.le_refl _) _
  have B36 : Below w3.heap.size w3 w6 := below_step HB35.out B56
  have X6 := HX5.out.bel B56
  have hin := HD3.out.inn
  have hz := HB35.out.size
  have hlen : nine.length = 256 := rfl
  have hbs : BsAt w6 (some ⟨w5.heap.size, 0, none⟩) [⟨12, nine⟩] := ⟨fun k hk => by
    obtain rfl : k = 0 := by simpa using hk
    exact ⟨w5.heap.size, 0, some ⟨w3.heap.size, 0, none⟩, 256, rfl, Y6.lt, Y6.cell 0, Y6.cell 1, Seg.of_block X6 (fun i hi => by simp)⟩⟩
  have hws : WsAt w6 S2 (some ⟨w5.heap.size, 0, none⟩) ([⟨12, nine⟩].map BW.nat) := ⟨fun k hk => by
    obtain rfl : k = 0 := by simpa using hk
    refine ⟨w5.heap.size, 0, some ⟨w3.heap.size, 0, none⟩, 256, rfl, Y6.lt, fun h => by have := hin _ h; omega, Y6.cell 0, Y6.cell 1, Seg.of_block X6 (fun i hi => by show _ = (u8s nine)[i]?; simp), fun a e => ?_⟩
    injection e with e
    subst e
    exact ⟨fun h => by have := hin _ h; simp only at this; omega, X6.lt⟩⟩
  have hck : chkN 20 0 10 [⟨12, nine⟩] = 0 := by
    unfold chkN
    rw [if_neg (by simp), if_neg, if_neg]
    · rintro ⟨k, hk, h⟩
      obtain rfl : k = 0 := by simpa using hk
      rcases h with h | ⟨j, hj, _⟩
      · unfold BW.within at h
        simp at h
      · omega
    · rintro ⟨x, hx, h⟩
      simp only [List.mem_cons, List.not_mem_nil, or_false] at hx
      subst hx
      unfold BW.bad at h
      simp [hlen] at h
  have CC : Calls Try.prog 37 #[.pointer (some ⟨q, 0, none⟩), .slice (some ⟨w5.heap.size, 0, none⟩) 1 1] w6 fun e w' => e = .returned (.int .i64 0) ∧ ∃ S', Dsk w' S' p 20 (cmD ((DM.new 20).land [(0, headN 0 10 0 0)]) 0 10 0 ([⟨12, nine⟩].map BW.nat)) ∧ Kp S2 S' w6 w' :=
    commit_ok q p 0 10 20 0 S2 _ _ 1 1 [⟨12, nine⟩] w6 (HJ3.out.bel B36) HQ.out (HD3.out.bel B36) rfl rfl rfl hbs hws HF.out hck (by omega) HRD.out (by omega)
  have CC := Lib.hid CC
  have hbl : ∀ y ∈ [⟨12, nine⟩].map BW.nat, y.1 < 20 ∧ y.2.length = 256 := by
    intro y hy
    simp only [List.map_cons, List.map_nil, List.mem_cons, List.not_mem_nil, or_false] at hy
    subst hy
    exact ⟨by decide, rfl⟩
  have hhd := cmD_head (seq := 0) HOK.out HF.out (by simp) hbl
  have hr12 := cmD_rd (seq := 0) HOK.out rfl HF.out (by simp) hbl 12 (by omega) (by omega)
  have hr12' : (cmD ((DM.new 20).land [(0, headN 0 10 0 0)]) 0 10 0 ([⟨12, nine⟩].map BW.nat)).rd 12 = nine := hr12
  have HHD := Lib.hid hhd
  have HR12 := Lib.hid hr12'
  have HX6 := Lib.hid X6
  have HJ6 := Lib.hid (HJ3.out.bel B36)
  have HB6 := Lib.hid (HB3.out.trans (B36.mono HB3.out.size))
  have hx3 : ¬ S2 w3.heap.size := fun h => absurd (hin _ h) (Nat.lt_irrefl _)
  have HX3 := Lib.hid hx3
  have HW6 := Lib.hid hw6
  clear Y6 B56 B36 X6 hin hz hbs hws hck hbl hhd hr12 hr12' hx3 hw6 HB34 HX5 HB35 x5 f5
  go_wp2_with fail
  rw [← HW6.out]
  refine CC.out.mono ?_
  rintro e w7 ⟨rfl, S7, hD7, hK7⟩
  have HB7 := Lib.hid (HB6.out.trans (hK7.below HS2.out HB6.out.size))
  have hlen : nine.length = 256 := rfl
  have CS : Calls Try.prog 34 #[.pointer (some ⟨q, 0, none⟩)] w7 fun e w' => e = .returned (.int .u64 1) ∧ Below w7.heap.size w7 w' :=
    seq_any q p 20 0 10 S7 _ w7 (hK7.bk HJ6.out HQ.out) hD7 (by omega) (by omega) (by rw [HHD.out]; exact head_lt 0 10 0 1 (by omega) (by omega)) 0 1 (by rw [HHD.out]; rfl) (by rw [HHD.out]; exact head_seq 0 10 0 1 (by omega)) (by omega) (by rw [HHD.out]; exact head_take ..)
  have CS := Lib.hid CS
  have HD7 := Lib.hid hD7
  have HX7 := Lib.hid (hK7.bk HX6.out HX3.out)
  clear hD7 hK7 CC
  go_wp2_with fail
  refine CS.out.mono ?_
  rintro e w8 ⟨rfl, hb8⟩
  have HB8 := Lib.hid (HB7.out.trans (hb8.mono HB7.out.size))
  have CR : Calls Try.prog 24 #[.pointer (some ⟨p, 0, none⟩), .int .i64 12] w8 fun e w' => ∃ A' c', e = .returned (.tuple #[.slice A' 256 c', .int .i64 0]) ∧ 256 ≤ c' ∧ w'.ownsRow w8.heap.size 5 1 (.slice A' 256 c') 256 (u8s nine) ∧ Below w8.heap.size w8 w' := by
    have h := (HD7.out.bel hb8).read_ok 12 (by omega)
    rw [HR12.out] at h
    exact h
  have CR := Lib.hid CR
  have HX8 := Lib.hid (HX7.out.bel hb8)
  clear hb8 CS
  go_wp2_with fail
  refine CR.out.mono ?_
  rintro e w9 ⟨A', c', rfl, _, ho, hb9⟩
  have HB9 := Lib.hid (HB8.out.trans (hb9.mono HB8.out.size))
  have CE := same_bytes A' (some ⟨w3.heap.size, 0, none⟩) c' 256 256 256 nine nine w9 hlen.symm hlen.symm (Seg.of_own ho) (Seg.of_block (HX8.out.bel hb9) (fun i hi => by simp)) (by omega) (by omega)
  rw [decide_eq_true rfl] at CE
  have CE := Lib.hid CE
  clear ho hb9 CR
  go_wp2_with fail
  refine CE.out.mono ?_
  rintro e w10 ⟨rfl, hb10⟩
  have HB10 := Lib.hid (HB9.out.trans (hb10.mono HB9.out.size))
  clear hb10
  go_wp2_with fail
  go_ret
  exact ⟨rfl, HB10.out⟩
end Go.Proofs.Ytmgbmnbjionapaa
