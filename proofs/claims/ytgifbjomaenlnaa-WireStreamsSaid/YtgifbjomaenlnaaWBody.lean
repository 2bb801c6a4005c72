/- readBody: what it reads, or its giving up. Condition: the bytes lie in memory. -/
import Derived.Test.YtgifbjomaenlnaaWRdF
import Derived.Test.YtgifbjomaenlnaaWBodyM
import Derived.Test.YtgifbjomaenlnaaWEq
import Derived.Deep.CutBlock
import Derived.Deep.DeepCutAuto
namespace Go.Proofs.Ytgifbjomaenlnaa
open Go.RowKit

/-- What readBody comes to. -/
def BodyPost (w0 : World) (P : Option MsgM) (e : Ending) (w' : World) : Prop :=
  Below w0.heap.size w0 w' ∧ match P with
  | none => e = .panicked brokenE
  | some m => ∃ A c, e = .returned (.agg (msgC m A m.ents.length c)) ∧ Mg w' m A m.ents.length c ∧ ∀ a, A = some a → w0.heap.size + 2 ≤ a.block
/-- Where the reading of a message stands. -/
structure BdS (w0 : World) (gm : Nat) (l : List Nat) (cs : Array Value) (w : World) : Prop where
  bel : Below w0.heap.size w0 w
  res : Bk w w0.heap.size 24 zMsg
  box : Bk w gm 24 cs
  rd : Rd (w0.heap.size + 2) w (w0.heap.size + 1) l
  ge : w0.heap.size + 2 ≤ gm
theorem BdS.call {w0 w w' : World} {gm : Nat} {l r : List Nat} {cs : Array Value} (h : BdS w0 gm l cs w) (k : KQ (w0.heap.size + 1) w w') (hr : Rd (w0.heap.size + 2) w' (w0.heap.size + 1) r) : BdS w0 gm r cs w' :=
  ⟨h.bel.trans (k.bel.mono (by omega)), bk_kept h.res (by omega) k.kept, bk_kept h.box (by have := h.ge; omega) k.kept, hr, h.ge⟩
theorem BdS.set {w0 w : World} {gm : Nat} {l : List Nat} {cs : Array Value} (h : BdS w0 gm l cs w) (i : Nat) (v : Value) : BdS w0 gm l (cs.setIfInBounds i v) (w.setCell ⟨gm, i, none⟩ v) :=
  ⟨h.bel.setCell (by have := h.ge; show w0.heap.size ≤ gm; omega) _, bk_kept h.res (by have := h.ge; omega) (Kept1.set w gm i v), h.box.put i v, h.rd.other (Kept1.set w gm i v) (by have := h.ge; omega) (Or.inr h.ge), h.ge⟩
theorem BdS.next {w0 w w' : World} {gm : Nat} {l : List Nat} {cs : Array Value} (h : BdS w0 gm l cs w) (hb : Below w.heap.size w w') : BdS w0 gm l cs w' :=
  ⟨h.bel.trans (hb.mono h.bel.size), h.res.bel hb, h.box.bel hb, h.rd.bel hb, h.ge⟩
theorem bodyP_none {x : Nat} {l : List Nat} (h : numsP 7 l = none) : bodyP (x :: l) = none := by
  show ((numsP 7 l).bind fun p => tailP x p.1 p.2).bind _ = none
  rw [h]; rfl
theorem bodyP_tail {x : Nat} {l r : List Nat} {zs : List Int} (h : numsP 7 l = some (zs, r)) (ht : tailP x zs r = none) : bodyP (x :: l) = none := by
  show ((numsP 7 l).bind fun p => tailP x p.1 p.2).bind _ = none
  rw [h, Option.bind_some, ht]; rfl
theorem bodyP_some {x : Nat} {l r : List Nat} {zs : List Int} {m : MsgM} (h : numsP 7 l = some (zs, r)) (ht : tailP x zs r = some m) : bodyP (x :: l) = if checkN m = 0 ∧ encN m = x :: l then some m else none := by
  show ((numsP 7 l).bind fun p => tailP x p.1 p.2).bind _ = _
  rw [h, Option.bind_some, ht, Option.bind_some]
theorem numN_lt {z : Int} (h : inI z) : ∀ x ∈ numN z, x < 256 := varF_lt 9 _ (by have := zigN_lt h; have : (128 : Nat) ^ (9 + 1) = 1180591620717411303424 := rfl; omega)
theorem numsN_lt {m : MsgM} (h : ∀ k, inI (m.num k)) : ∀ k, ∀ x ∈ numsN m k, x < 256
  | 0, x, hx => absurd hx List.not_mem_nil
  | k + 1, x, hx => by
    rw [numsN] at hx
    rcases List.mem_append.1 hx with hx | hx
    · exact numsN_lt h k x hx
    · exact numN_lt (h k) x hx
theorem bytesN_lt (s : ByteArray) : ∀ x ∈ bytesN s, x < 256 := by
  intro x hx
  unfold bytesN at hx
  obtain ⟨y, _, rfl⟩ := List.mem_map.1 hx
  exact y.toNat_lt
theorem entsN_lt {l : List (Int × ByteArray)} (h : ∀ e ∈ l, inI e.1) : ∀ k, k ≤ l.length → ∀ x ∈ entsN l k, x < 256
  | 0, _, x, hx => absurd hx List.not_mem_nil
  | k + 1, hk, x, hx => by
    have e1 : l.getD k (0, ByteArray.empty) = l[k] := by simp [List.getElem?_eq_getElem (show k < l.length by omega)]
    rw [entsN, e1] at hx
    rcases List.mem_append.1 hx with hx | hx
    · exact entsN_lt h k (by omega) x hx
    · unfold entN at hx
      rcases List.mem_append.1 hx with hx | hx
      · exact numN_lt (h _ (List.getElem_mem (by omega))) x hx
      · rcases List.mem_cons.1 hx with rfl | hx
        · omega
        · exact bytesN_lt _ x hx
theorem encN_lt {m : MsgM} (hm : ∀ k, inI (m.num k)) (he : ∀ e ∈ m.ents, inI e.1) : ∀ x ∈ encN m, x < 256 := by
  intro x hx
  unfold encN headN at hx
  simp only [List.mem_append, List.mem_cons, List.not_mem_nil, or_false] at hx
  rcases hx with ((rfl | hx) | rfl | rfl) | hx
  · omega
  · exact numsN_lt hm 7 x hx
  · split <;> omega
  · omega
  · exact entsN_lt he _ (Nat.le_refl _) x hx
theorem info_ent : (Try.prog.info? 54).map (fun i => (i.zero, i.size, i.bytes)) = some (some (.agg #[.int .i64 0, .string ⟨#[]⟩]), 2, 24) := by kernel_rfl
theorem set_msg {B g : Nat} {w0 w : World} (hg : B ≤ g) (hb : Below B w0 w) (h : Bk w g 24 zMsg) (v0 v1 v2 v3 v4 v5 v6 v7 v8 v9 : Value) : ∀ wf, ((((((((((w.setCell ⟨g, 0, none⟩ v0).setCell ⟨g, 1, none⟩ v1).setCell ⟨g, 2, none⟩ v2).setCell ⟨g, 3, none⟩ v3).setCell ⟨g, 4, none⟩ v4).setCell ⟨g, 5, none⟩ v5).setCell ⟨g, 6, none⟩ v6).setCell ⟨g, 7, none⟩ v7).setCell ⟨g, 8, none⟩ v8).setCell ⟨g, 9, none⟩ v9) = wf → Below B w0 wf ∧ Bk wf g 24 #[v0, v1, v2, v3, v4, v5, v6, v7, v8, v9] ∧ Kept1 g w wf := by
  intro wf hwf
  subst hwf
  have h := ((((((((((h.put 0 v0).put 1 v1).put 2 v2).put 3 v3).put 4 v4).put 5 v5).put 6 v6).put 7 v7).put 8 v8).put 9 v9)
  unfold zMsg at h
  simp only [List.setIfInBounds_toArray, List.set_cons_zero, List.set_cons_succ] at h
  exact ⟨((((((((((hb.setCell (p := ⟨g, 0, none⟩) hg v0).setCell (p := ⟨g, 1, none⟩) hg v1).setCell (p := ⟨g, 2, none⟩) hg v2).setCell (p := ⟨g, 3, none⟩) hg v3).setCell (p := ⟨g, 4, none⟩) hg v4).setCell (p := ⟨g, 5, none⟩) hg v5).setCell (p := ⟨g, 6, none⟩) hg v6).setCell (p := ⟨g, 7, none⟩) hg v7).setCell (p := ⟨g, 8, none⟩) hg v8).setCell (p := ⟨g, 9, none⟩) hg v9), h, ((((((((((Kept1.set w g _ _).trans (Kept1.set _ _ _ _)).trans (Kept1.set _ _ _ _)).trans (Kept1.set _ _ _ _)).trans (Kept1.set _ _ _ _)).trans (Kept1.set _ _ _ _)).trans (Kept1.set _ _ _ _)).trans (Kept1.set _ _ _ _)).trans (Kept1.set _ _ _ _)).trans (Kept1.set _ _ _ _))⟩
theorem set_num0 (x : Nat) (zs : List Int) (z : Int) (v : Value) (h : zs.length = 0) : (msgV (msgOf x zs) v).setIfInBounds 1 (.int .i64 z) = msgV (msgOf x (zs ++ [z])) v := by
  obtain rfl : zs = [] := List.eq_nil_of_length_eq_zero h
  rfl
theorem set_num1 (x : Nat) (zs : List Int) (z : Int) (v : Value) (h : zs.length = 1) : (msgV (msgOf x zs) v).setIfInBounds 2 (.int .i64 z) = msgV (msgOf x (zs ++ [z])) v := by
  obtain ⟨a, rfl⟩ : ∃ a : Int, zs = [a] := by
    match zs, h with
    | [a], _ => exact ⟨a, rfl⟩
  rfl
theorem set_num2 (x : Nat) (zs : List Int) (z : Int) (v : Value) (h : zs.length = 2) : (msgV (msgOf x zs) v).setIfInBounds 3 (.int .i64 z) = msgV (msgOf x (zs ++ [z])) v := by
  obtain ⟨a, b, rfl⟩ : ∃ a b : Int, zs = [a, b] := by
    match zs, h with
    | [a, b], _ => exact ⟨a, b, rfl⟩
  rfl
theorem set_num3 (x : Nat) (zs : List Int) (z : Int) (v : Value) (h : zs.length = 3) : (msgV (msgOf x zs) v).setIfInBounds 4 (.int .i64 z) = msgV (msgOf x (zs ++ [z])) v := by
  obtain ⟨a, b, c, rfl⟩ : ∃ a b c : Int, zs = [a, b, c] := by
    match zs, h with
    | [a, b, c], _ => exact ⟨a, b, c, rfl⟩
  rfl
theorem set_num4 (x : Nat) (zs : List Int) (z : Int) (v : Value) (h : zs.length = 4) : (msgV (msgOf x zs) v).setIfInBounds 5 (.int .i64 z) = msgV (msgOf x (zs ++ [z])) v := by
  obtain ⟨a, b, c, d, rfl⟩ : ∃ a b c d : Int, zs = [a, b, c, d] := by
    match zs, h with
    | [a, b, c, d], _ => exact ⟨a, b, c, d, rfl⟩
  rfl
theorem set_num5 (x : Nat) (zs : List Int) (z : Int) (v : Value) (h : zs.length = 5) : (msgV (msgOf x zs) v).setIfInBounds 6 (.int .i64 z) = msgV (msgOf x (zs ++ [z])) v := by
  obtain ⟨a, b, c, d, e, rfl⟩ : ∃ a b c d e : Int, zs = [a, b, c, d, e] := by
    match zs, h with
    | [a, b, c, d, e], _ => exact ⟨a, b, c, d, e, rfl⟩
  rfl
theorem set_num6 (x : Nat) (zs : List Int) (z : Int) (v : Value) (h : zs.length = 6) : (msgV (msgOf x zs) v).setIfInBounds 9 (.int .i64 z) = msgV (msgOf x (zs ++ [z])) v := by
  obtain ⟨a, b, c, d, e, f, rfl⟩ : ∃ a b c d e f : Int, zs = [a, b, c, d, e, f] := by
    match zs, h with
    | [a, b, c, d, e, f], _ => exact ⟨a, b, c, d, e, f, rfl⟩
  rfl
set_option maxRecDepth 100000 in
set_option maxHeartbeats 4000000 in
theorem rbody_any (A : Option Addr) (n c : Nat) (l : List Nat) (hn : n = l.length) (hnc : n ≤ c) (h9 : n ≤ 900) (hl : ∀ x ∈ l, x < 256) (w : World) (hA : Seg w A (u8s l)) (hAb : ∀ a, A = some a → a.block < w.heap.size) :
    Calls Try.prog 26 #[.slice A n c] w (BodyPost w (bodyP l)) := by
  obtain ⟨wa, hwa⟩ : ∃ wa, wa = w.alloc (.cells zMsg 24) := ⟨_, rfl⟩
  obtain ⟨wb, hwb⟩ : ∃ wb, wb = wa.alloc (.cells #[.slice A n c] 75) := ⟨_, rfl⟩
  have hsa : wa.heap.size = w.heap.size + 1 := by rw [hwa]; simp
  have hsb : wb.heap.size = w.heap.size + 2 := by rw [hwb]; simp [hsa]
  have Ba : Below w.heap.size w wa := by rw [hwa]; exact (Below.refl _ _).alloc (Nat.le_refl _) _
  have Bb : Below w.heap.size w wb := by rw [hwb]; exact Ba.alloc (by omega) _
  have X1 : Bk wb w.heap.size 24 zMsg := by rw [hwb, hwa]; exact (Bk.new w _ _).alloc _
  have hRd : Rd (w.heap.size + 2) wb (w.heap.size + 1) l := by
    refine ⟨A, c, ?_, by omega, hA.bel Bb, fun a e => ?_⟩
    · rw [hwb, ← hsa, ← hn]; exact Bk.new wa _ _
    · have := hAb a e
      omega
  have C := byte_any (w.heap.size + 1) l wb hRd
  have HX1 := Lib.hid X1
  have HBb := Lib.hid Bb
  have HWA := Lib.hid hwa
  have HWB := Lib.hid hwb
  have HSA := Lib.hid hsa
  have HSB := Lib.hid hsb
  have HL := Lib.hid hl
  have HN := Lib.hid hn
  have HLn := Lib.hid (show l.length ≤ 900 by omega)
  have HA := Lib.hid hA
  clear hn hl hA hAb hwa hwb hsa hsb Ba Bb X1 hRd
  unfold zMsg at HWA
  rcases l with _ | ⟨x, l1⟩
  · have C1 := Lib.hid C
    clear C
    go_enter Try.func26, Try.ntmps26
    go_upto_region 2 with fail
    rw [← HWA.out, ← HWB.out]
    go_wp2_with fail
    refine C1.out.mono ?_
    rintro e w1 ⟨hk, rfl⟩
    exact ⟨rfl, HBb.out.trans (hk.bel.mono (by omega)), rfl⟩
  · have C1 := Lib.hid C
    have hx := HL.out x (by simp)
    clear C
    go_enter Try.func26, Try.ntmps26
    go_upto_region 2 with fail
    rw [← HWA.out, ← HWB.out]
    go_wp2_with fail
    refine C1.out.mono ?_
    rintro e w1 ⟨hk, rfl, hr⟩
    have hs1 : w.heap.size + 2 ≤ w1.heap.size := by have := hk.kept.size; have := HSB.out; omega
    have HS1 := Lib.hid hs1
    have HSW := Lib.hid (show ∀ W1, w1.alloc (.cells #[.int .i64 (x : Int), .int .i64 0, .int .i64 0, .int .i64 0, .int .i64 0, .int .i64 0, .int .i64 0, .slice none 0 0, .bool false, .int .i64 0] 24) = W1 → BdS w w1.heap.size l1 (msgV (msgOf x []) (.slice none 0 0)) W1 from fun W1 hW => by
      subst hW
      exact ⟨(HBb.out.trans (hk.bel.mono (by omega))).alloc (by omega) _, (bk_kept HX1.out (by omega) hk.kept).alloc _, Bk.new w1 _ _, hr.bel ((Below.refl _ _).alloc (Nat.le_refl _) _), hs1⟩)
    clear hk hr C1 HX1 HBb HWA HWB HSA HSB hs1
    go_upto_region 3 with fail
    generalize hW1 : w1.alloc (.cells #[.int .i64 (x : Int), .int .i64 0, .int .i64 0, .int .i64 0, .int .i64 0, .int .i64 0, .int .i64 0, .slice none 0 0, .bool false, .int .i64 0] 24) = W1
    have HST := Lib.hid (HSW.out W1 hW1)
    clear hW1 HSW
    go_wp2_with fail
    refine (numbers_any w1.heap.size W1).mono ?_
    rintro e w3 ⟨rfl, hb3⟩
    have HS3 := Lib.hid (HST.out.next hb3)
    clear hb3 HST
    unfold nsV
    go_wp2_with fail
    go_loopw [17] (fun i wr => ∃ (k : Nat) (zs : List Int) (r : List Nat), k ≤ 7 ∧ i = .int .i64 (k : Int) ∧ Hid (numsP k l1 = some (zs, r)) ∧ Hid (BdS w w1.heap.size r (msgV (msgOf x zs) (.slice none 0 0)) wr)) (fun i _ => 7 - (intOf i).toNat)
    case atStart => exact ⟨0, [], l1, by omega, rfl, Lib.hid rfl, HS3⟩
    case round =>
      clear HS3
      obtain ⟨k, zs, r, hk, rfl, HNP, HS⟩ := hrel
      by_cases hlt : k < 7
      · have hk7 : k = 0 ∨ k = 1 ∨ k = 2 ∨ k = 3 ∨ k = 4 ∨ k = 5 ∨ k = 6 := by omega
        clear hk hlt
        rcases hk7 with rfl | rfl | rfl | rfl | rfl | rfl | rfl
        · have hix := run_nsV0 w1.heap.size wr
          unfold nsV at hix
          have hsub := numsP_sub HNP.out
          have C := number_any (w.heap.size + 1) r wr HS.out.rd (fun y hy => HL.out y (List.mem_cons_of_mem _ (hsub.1 y hy))) (by have := HLn.out; have := hsub.2.2.2; simp only [List.length_cons] at *; omega)
          cases hz : numP 0 0 r with
          | none =>
            rw [hz] at C
            have C1 := Lib.hid C
            have HZ := Lib.hid (show bodyP (x :: l1) = none by
              have h1 : numsP 1 l1 = none := by rw [numsP, HNP.out, Option.bind_some]; simp only [hz]; rfl
              exact bodyP_none (numsP_none h1 7 (by omega)))
            clear C hz hsub
            go_wp2_with fail
            refine C1.out.mono ?_
            rintro e w5 ⟨hk5, rfl⟩
            refine ⟨rfl, HS.out.bel.trans (hk5.bel.mono (by omega)), ?_⟩
            rw [HZ.out]
          | some p =>
            obtain ⟨z, r2⟩ := p
            rw [hz] at C
            have C1 := Lib.hid C
            have HZ := Lib.hid (show numsP 1 l1 = some (zs ++ [z], r2) by rw [numsP, HNP.out, Option.bind_some]; simp only [hz]; rfl)
            have HZL := Lib.hid hsub.2.2.1
            clear C hz hsub
            go_wp2_with fail
            refine C1.out.mono ?_
            rintro e w5 ⟨hk5, rfl, hr5⟩
            have HS5 := Lib.hid (HS.out.call hk5 hr5)
            have u0 : w5.cell? ⟨w1.heap.size, 1, none⟩ = some (.int .i64 (msgOf x zs).n0) := HS5.out.box.cell 1
            have f0 := HS5.out.box.frozen 1
            have HS6 := Lib.hid (show BdS w w1.heap.size r2 (msgV (msgOf x (zs ++ [z])) (.slice none 0 0)) (w5.setCell ⟨w1.heap.size, 1, none⟩ (.int .i64 z)) from by
              rw [← set_num0 x zs z _ HZL.out]
              exact HS5.out.set 1 _)
            clear hk5 hr5 HS C1 HS5
            go_wp2_with fail
            go_roundw
            case rel => exact ⟨1, zs ++ [z], r2, by omega, rfl, HZ, HS6⟩
            case measure => simp [intOf]
        · have hix := run_nsV1 w1.heap.size wr
          unfold nsV at hix
          have hsub := numsP_sub HNP.out
          have C := number_any (w.heap.size + 1) r wr HS.out.rd (fun y hy => HL.out y (List.mem_cons_of_mem _ (hsub.1 y hy))) (by have := HLn.out; have := hsub.2.2.2; simp only [List.length_cons] at *; omega)
          cases hz : numP 0 0 r with
          | none =>
            rw [hz] at C
            have C1 := Lib.hid C
            have HZ := Lib.hid (show bodyP (x :: l1) = none by
              have h1 : numsP 2 l1 = none := by rw [numsP, HNP.out, Option.bind_some]; simp only [hz]; rfl
              exact bodyP_none (numsP_none h1 7 (by omega)))
            clear C hz hsub
            go_wp2_with fail
            refine C1.out.mono ?_
            rintro e w5 ⟨hk5, rfl⟩
            refine ⟨rfl, HS.out.bel.trans (hk5.bel.mono (by omega)), ?_⟩
            rw [HZ.out]
          | some p =>
            obtain ⟨z, r2⟩ := p
            rw [hz] at C
            have C1 := Lib.hid C
            have HZ := Lib.hid (show numsP 2 l1 = some (zs ++ [z], r2) by rw [numsP, HNP.out, Option.bind_some]; simp only [hz]; rfl)
            have HZL := Lib.hid hsub.2.2.1
            clear C hz hsub
            go_wp2_with fail
            refine C1.out.mono ?_
            rintro e w5 ⟨hk5, rfl, hr5⟩
            have HS5 := Lib.hid (HS.out.call hk5 hr5)
            have u0 : w5.cell? ⟨w1.heap.size, 2, none⟩ = some (.int .i64 (msgOf x zs).n1) := HS5.out.box.cell 2
            have f0 := HS5.out.box.frozen 2
            have HS6 := Lib.hid (show BdS w w1.heap.size r2 (msgV (msgOf x (zs ++ [z])) (.slice none 0 0)) (w5.setCell ⟨w1.heap.size, 2, none⟩ (.int .i64 z)) from by
              rw [← set_num1 x zs z _ HZL.out]
              exact HS5.out.set 2 _)
            clear hk5 hr5 HS C1 HS5
            go_wp2_with fail
            go_roundw
            case rel => exact ⟨2, zs ++ [z], r2, by omega, rfl, HZ, HS6⟩
            case measure => simp [intOf]
        · have hix := run_nsV2 w1.heap.size wr
          unfold nsV at hix
          have hsub := numsP_sub HNP.out
          have C := number_any (w.heap.size + 1) r wr HS.out.rd (fun y hy => HL.out y (List.mem_cons_of_mem _ (hsub.1 y hy))) (by have := HLn.out; have := hsub.2.2.2; simp only [List.length_cons] at *; omega)
          cases hz : numP 0 0 r with
          | none =>
            rw [hz] at C
            have C1 := Lib.hid C
            have HZ := Lib.hid (show bodyP (x :: l1) = none by
              have h1 : numsP 3 l1 = none := by rw [numsP, HNP.out, Option.bind_some]; simp only [hz]; rfl
              exact bodyP_none (numsP_none h1 7 (by omega)))
            clear C hz hsub
            go_wp2_with fail
            refine C1.out.mono ?_
            rintro e w5 ⟨hk5, rfl⟩
            refine ⟨rfl, HS.out.bel.trans (hk5.bel.mono (by omega)), ?_⟩
            rw [HZ.out]
          | some p =>
            obtain ⟨z, r2⟩ := p
            rw [hz] at C
            have C1 := Lib.hid C
            have HZ := Lib.hid (show numsP 3 l1 = some (zs ++ [z], r2) by rw [numsP, HNP.out, Option.bind_some]; simp only [hz]; rfl)
            have HZL := Lib.hid hsub.2.2.1
            clear C hz hsub
            go_wp2_with fail
            refine C1.out.mono ?_
            rintro e w5 ⟨hk5, rfl, hr5⟩
            have HS5 := Lib.hid (HS.out.call hk5 hr5)
            have u0 : w5.cell? ⟨w1.heap.size, 3, none⟩ = some (.int .i64 (msgOf x zs).n2) := HS5.out.box.cell 3
            have f0 := HS5.out.box.frozen 3
            have HS6 := Lib.hid (show BdS w w1.heap.size r2 (msgV (msgOf x (zs ++ [z])) (.slice none 0 0)) (w5.setCell ⟨w1.heap.size, 3, none⟩ (.int .i64 z)) from by
              rw [← set_num2 x zs z _ HZL.out]
              exact HS5.out.set 3 _)
            clear hk5 hr5 HS C1 HS5
            go_wp2_with fail
            go_roundw
            case rel => exact ⟨3, zs ++ [z], r2, by omega, rfl, HZ, HS6⟩
            case measure => simp [intOf]
        · have hix := run_nsV3 w1.heap.size wr
          unfold nsV at hix
          have hsub := numsP_sub HNP.out
          have C := number_any (w.heap.size + 1) r wr HS.out.rd (fun y hy => HL.out y (List.mem_cons_of_mem _ (hsub.1 y hy))) (by have := HLn.out; have := hsub.2.2.2; simp only [List.length_cons] at *; omega)
          cases hz : numP 0 0 r with
          | none =>
            rw [hz] at C
            have C1 := Lib.hid C
            have HZ := Lib.hid (show bodyP (x :: l1) = none by
              have h1 : numsP 4 l1 = none := by rw [numsP, HNP.out, Option.bind_some]; simp only [hz]; rfl
              exact bodyP_none (numsP_none h1 7 (by omega)))
            clear C hz hsub
            go_wp2_with fail
            refine C1.out.mono ?_
            rintro e w5 ⟨hk5, rfl⟩
            refine ⟨rfl, HS.out.bel.trans (hk5.bel.mono (by omega)), ?_⟩
            rw [HZ.out]
          | some p =>
            obtain ⟨z, r2⟩ := p
            rw [hz] at C
            have C1 := Lib.hid C
            have HZ := Lib.hid (show numsP 4 l1 = some (zs ++ [z], r2) by rw [numsP, HNP.out, Option.bind_some]; simp only [hz]; rfl)
            have HZL := Lib.hid hsub.2.2.1
            clear C hz hsub
            go_wp2_with fail
            refine C1.out.mono ?_
            rintro e w5 ⟨hk5, rfl, hr5⟩
            have HS5 := Lib.hid (HS.out.call hk5 hr5)
            have u0 : w5.cell? ⟨w1.heap.size, 4, none⟩ = some (.int .i64 (msgOf x zs).n3) := HS5.out.box.cell 4
            have f0 := HS5.out.box.frozen 4
            have HS6 := Lib.hid (show BdS w w1.heap.size r2 (msgV (msgOf x (zs ++ [z])) (.slice none 0 0)) (w5.setCell ⟨w1.heap.size, 4, none⟩ (.int .i64 z)) from by
              rw [← set_num3 x zs z _ HZL.out]
              exact HS5.out.set 4 _)
            clear hk5 hr5 HS C1 HS5
            go_wp2_with fail
            go_roundw
            case rel => exact ⟨4, zs ++ [z], r2, by omega, rfl, HZ, HS6⟩
            case measure => simp [intOf]
        · have hix := run_nsV4 w1.heap.size wr
          unfold nsV at hix
          have hsub := numsP_sub HNP.out
          have C := number_any (w.heap.size + 1) r wr HS.out.rd (fun y hy => HL.out y (List.mem_cons_of_mem _ (hsub.1 y hy))) (by have := HLn.out; have := hsub.2.2.2; simp only [List.length_cons] at *; omega)
          cases hz : numP 0 0 r with
          | none =>
            rw [hz] at C
            have C1 := Lib.hid C
            have HZ := Lib.hid (show bodyP (x :: l1) = none by
              have h1 : numsP 5 l1 = none := by rw [numsP, HNP.out, Option.bind_some]; simp only [hz]; rfl
              exact bodyP_none (numsP_none h1 7 (by omega)))
            clear C hz hsub
            go_wp2_with fail
            refine C1.out.mono ?_
            rintro e w5 ⟨hk5, rfl⟩
            refine ⟨rfl, HS.out.bel.trans (hk5.bel.mono (by omega)), ?_⟩
            rw [HZ.out]
          | some p =>
            obtain ⟨z, r2⟩ := p
            rw [hz] at C
            have C1 := Lib.hid C
            have HZ := Lib.hid (show numsP 5 l1 = some (zs ++ [z], r2) by rw [numsP, HNP.out, Option.bind_some]; simp only [hz]; rfl)
            have HZL := Lib.hid hsub.2.2.1
            clear C hz hsub
            go_wp2_with fail
            refine C1.out.mono ?_
            rintro e w5 ⟨hk5, rfl, hr5⟩
            have HS5 := Lib.hid (HS.out.call hk5 hr5)
            have u0 : w5.cell? ⟨w1.heap.size, 5, none⟩ = some (.int .i64 (msgOf x zs).n4) := HS5.out.box.cell 5
            have f0 := HS5.out.box.frozen 5
            have HS6 := Lib.hid (show BdS w w1.heap.size r2 (msgV (msgOf x (zs ++ [z])) (.slice none 0 0)) (w5.setCell ⟨w1.heap.size, 5, none⟩ (.int .i64 z)) from by
              rw [← set_num4 x zs z _ HZL.out]
              exact HS5.out.set 5 _)
            clear hk5 hr5 HS C1 HS5
            go_wp2_with fail
            go_roundw
            case rel => exact ⟨5, zs ++ [z], r2, by omega, rfl, HZ, HS6⟩
            case measure => simp [intOf]
        · have hix := run_nsV5 w1.heap.size wr
          unfold nsV at hix
          have hsub := numsP_sub HNP.out
          have C := number_any (w.heap.size + 1) r wr HS.out.rd (fun y hy => HL.out y (List.mem_cons_of_mem _ (hsub.1 y hy))) (by have := HLn.out; have := hsub.2.2.2; simp only [List.length_cons] at *; omega)
          cases hz : numP 0 0 r with
          | none =>
            rw [hz] at C
            have C1 := Lib.hid C
            have HZ := Lib.hid (show bodyP (x :: l1) = none by
              have h1 : numsP 6 l1 = none := by rw [numsP, HNP.out, Option.bind_some]; simp only [hz]; rfl
              exact bodyP_none (numsP_none h1 7 (by omega)))
            clear C hz hsub
            go_wp2_with fail
            refine C1.out.mono ?_
            rintro e w5 ⟨hk5, rfl⟩
            refine ⟨rfl, HS.out.bel.trans (hk5.bel.mono (by omega)), ?_⟩
            rw [HZ.out]
          | some p =>
            obtain ⟨z, r2⟩ := p
            rw [hz] at C
            have C1 := Lib.hid C
            have HZ := Lib.hid (show numsP 6 l1 = some (zs ++ [z], r2) by rw [numsP, HNP.out, Option.bind_some]; simp only [hz]; rfl)
            have HZL := Lib.hid hsub.2.2.1
            clear C hz hsub
            go_wp2_with fail
            refine C1.out.mono ?_
            rintro e w5 ⟨hk5, rfl, hr5⟩
            have HS5 := Lib.hid (HS.out.call hk5 hr5)
            have u0 : w5.cell? ⟨w1.heap.size, 6, none⟩ = some (.int .i64 (msgOf x zs).n5) := HS5.out.box.cell 6
            have f0 := HS5.out.box.frozen 6
            have HS6 := Lib.hid (show BdS w w1.heap.size r2 (msgV (msgOf x (zs ++ [z])) (.slice none 0 0)) (w5.setCell ⟨w1.heap.size, 6, none⟩ (.int .i64 z)) from by
              rw [← set_num5 x zs z _ HZL.out]
              exact HS5.out.set 6 _)
            clear hk5 hr5 HS C1 HS5
            go_wp2_with fail
            go_roundw
            case rel => exact ⟨6, zs ++ [z], r2, by omega, rfl, HZ, HS6⟩
            case measure => simp [intOf]
        · have hix := run_nsV6 w1.heap.size wr
          unfold nsV at hix
          have hsub := numsP_sub HNP.out
          have C := number_any (w.heap.size + 1) r wr HS.out.rd (fun y hy => HL.out y (List.mem_cons_of_mem _ (hsub.1 y hy))) (by have := HLn.out; have := hsub.2.2.2; simp only [List.length_cons] at *; omega)
          cases hz : numP 0 0 r with
          | none =>
            rw [hz] at C
            have C1 := Lib.hid C
            have HZ := Lib.hid (show bodyP (x :: l1) = none by
              have h1 : numsP 7 l1 = none := by rw [numsP, HNP.out, Option.bind_some]; simp only [hz]; rfl
              exact bodyP_none (numsP_none h1 7 (by omega)))
            clear C hz hsub
            go_wp2_with fail
            refine C1.out.mono ?_
            rintro e w5 ⟨hk5, rfl⟩
            refine ⟨rfl, HS.out.bel.trans (hk5.bel.mono (by omega)), ?_⟩
            rw [HZ.out]
          | some p =>
            obtain ⟨z, r2⟩ := p
            rw [hz] at C
            have C1 := Lib.hid C
            have HZ := Lib.hid (show numsP 7 l1 = some (zs ++ [z], r2) by rw [numsP, HNP.out, Option.bind_some]; simp only [hz]; rfl)
            have HZL := Lib.hid hsub.2.2.1
            clear C hz hsub
            go_wp2_with fail
            refine C1.out.mono ?_
            rintro e w5 ⟨hk5, rfl, hr5⟩
            have HS5 := Lib.hid (HS.out.call hk5 hr5)
            have u0 : w5.cell? ⟨w1.heap.size, 9, none⟩ = some (.int .i64 (msgOf x zs).n6) := HS5.out.box.cell 9
            have f0 := HS5.out.box.frozen 9
            have HS6 := Lib.hid (show BdS w w1.heap.size r2 (msgV (msgOf x (zs ++ [z])) (.slice none 0 0)) (w5.setCell ⟨w1.heap.size, 9, none⟩ (.int .i64 z)) from by
              rw [← set_num6 x zs z _ HZL.out]
              exact HS5.out.set 9 _)
            clear hk5 hr5 HS C1 HS5
            go_wp2_with fail
            go_roundw
            case rel => exact ⟨7, zs ++ [z], r2, by omega, rfl, HZ, HS6⟩
            case measure => simp [intOf]
      · have hk7 : k = 7 := by omega
        subst hk7
        clear hk hlt
        rcases r with _ | ⟨o, r⟩
        · have C1 := Lib.hid (byte_any (w.heap.size + 1) [] wr HS.out.rd)
          have HZ := Lib.hid (show bodyP (x :: l1) = none from bodyP_tail HNP.out rfl)
          go_wp2_with fail
          refine C1.out.mono ?_
          rintro e w5 ⟨hk5, rfl⟩
          refine ⟨rfl, HS.out.bel.trans (hk5.bel.mono (by omega)), ?_⟩
          rw [HZ.out]
        · have C1 := Lib.hid (byte_any (w.heap.size + 1) (o :: r) wr HS.out.rd)
          go_wp2_with fail
          refine C1.out.mono ?_
          rintro e w5 ⟨hk5, rfl, hr5⟩
          have HS5 := Lib.hid (HS.out.call hk5 hr5)
          have u0 : w5.cell? ⟨w1.heap.size, 8, none⟩ = some (.bool false) := HS5.out.box.cell 8
          have f0 := HS5.out.box.frozen 8
          clear hk5 hr5 HS C1
          go_upto_region 9 with fail
          obtain ⟨bo, hbo⟩ : ∃ bo : Bool, bo = ((o : Int) == 1) := ⟨_, rfl⟩
          have HBO := Lib.hid (show bo = (o == 1) by
            rw [hbo, Bool.eq_iff_iff, beq_iff_eq, beq_iff_eq]
            omega)
          rw [← hbo]
          clear hbo
          obtain ⟨M, hM⟩ : ∃ M : MsgM, M = { msgOf x zs with ok := bo } := ⟨_, rfl⟩
          have HSW := Lib.hid (show ∀ W6, w5.setCell ⟨w1.heap.size, 8, none⟩ (.bool bo) = W6 → BdS w w1.heap.size r (msgV M (.slice none 0 0)) W6 from fun W6 hW => by
            subst hW
            have h1 := HS5.out.set 8 (.bool bo)
            rw [show (msgV (msgOf x zs) (.slice none 0 0)).setIfInBounds 8 (.bool bo) = msgV M (.slice none 0 0) by rw [hM]; rfl] at h1
            exact h1)
          have HM := Lib.hid hM
          generalize hW6 : w5.setCell ⟨w1.heap.size, 8, none⟩ (.bool bo) = W6
          have HS6 := Lib.hid (HSW.out W6 hW6)
          clear hW6 HSW HS5 u0 f0 hM
          rcases r with _ | ⟨cc, r⟩
          · have C1 := Lib.hid (byte_any (w.heap.size + 1) [] W6 HS6.out.rd)
            have HZ := Lib.hid (show bodyP (x :: l1) = none from bodyP_tail HNP.out rfl)
            go_wp2_with fail
            refine C1.out.mono ?_
            rintro e w7 ⟨hk7, rfl⟩
            refine ⟨rfl, HS6.out.bel.trans (hk7.bel.mono (by omega)), ?_⟩
            rw [HZ.out]
          · have C1 := Lib.hid (byte_any (w.heap.size + 1) (cc :: r) W6 HS6.out.rd)
            have hsub := numsP_sub HNP.out
            have hcc : cc < 256 := HL.out cc (List.mem_cons_of_mem _ (hsub.1 cc (by simp)))
            have HLr := Lib.hid (show ∀ y ∈ r, y < 256 from fun y hy => HL.out y (List.mem_cons_of_mem _ (hsub.1 y (by simp [hy]))))
            have HRn := Lib.hid (show r.length ≤ 900 by have := HLn.out; have := hsub.2.2.2; simp only [List.length_cons] at *; omega)
            have HZI := Lib.hid hsub.2.1
            clear hsub
            go_wp2_with fail
            refine C1.out.mono ?_
            rintro e w7 ⟨hk7, rfl, hr7⟩
            have HS7 := Lib.hid (HS6.out.call hk7 hr7)
            clear hk7 hr7 C1 HS6
            go_wp2_with fail
            go_loopw [31] (fun i wr => ∃ (k : Nat) (es : List (Int × ByteArray)) (r2 : List Nat) (V : Value), k ≤ cc ∧ i = .int .u8 (k : Int) ∧ Hid (entsP k r = some (es, r2)) ∧ Hid (BdS w w1.heap.size r2 (msgV M V) wr) ∧ Hid (wr.ownsRow (w.heap.size + 2) 54 2 V k (entV es))) (fun i _ => cc - (intOf i).toNat)
            case atStart => exact ⟨0, [], r, .slice none 0 0, by omega, rfl, Lib.hid rfl, HS7, Lib.hid (World.ownsRow_nil _ _ _ _)⟩
            case round =>
              clear HS7
              obtain ⟨k, es, r2, V, hk, rfl, HEP, HS, HO⟩ := hrel
              obtain ⟨AK, cK, rfl, hcK, _, _⟩ := rowz_shape HO.out
              by_cases hkc : k < cc
              · have hkI : (k : Int) < (cc : Int) := by omega
                have hsub := entsP_sub HEP.out
                have HL2 := Lib.hid (show ∀ y ∈ r2, y < 256 from fun y hy => HLr.out y (hsub.1 y hy))
                have HR2 := Lib.hid (show r2.length ≤ 100000 by have := HRn.out; have := hsub.2.2.2; omega)
                have G0 := Lib.hid (show EpG w.heap.size (w.heap.size + 2) (w.heap.size + 1) w.heap.size w1.heap.size w (Value.ownBlock (.slice AK k cK)) wr.drew from
                  ⟨below_drewN HS.out.bel 1, HS.out.res, fun b e => rowz_ge HO.out e, HS.out.box.lt, by omega, by omega, by omega, by omega, HS.out.ge⟩)
                have H0 := Lib.hid (show ∀ m, m < 8 → epH (w.heap.size + 2) (w.heap.size + 1) w1.heap.size M (.slice AK k cK) k (entV es) r2 m wr.drew from fun m _ => by
                  unfold epH
                  split
                  · exact HS.out.rd
                  · exact own_belS HO.out (Below.refl _ _).drew
                  · exact HS.out.box
                  · trivial)
                clear hsub HO HS
                cases hent : entP r2 with
                | none =>
                  have HZ := Lib.hid (show bodyP (x :: l1) = none from bodyP_tail HNP.out (by
                    have h1 : entsP (k + 1) r = none := by rw [entsP, HEP.out, Option.bind_some]; simp only [hent]; rfl
                    show (entsP cc r).map _ = none
                    rw [entsP_none h1 cc (by omega)]
                    rfl))
                  have HPost := Lib.hid (show ∀ w', Below w.heap.size w w' → BodyPost w (bodyP (x :: l1)) (.panicked brokenE) w' from fun w' hb => ⟨hb, by rw [HZ.out]⟩)
                  have HP := Lib.hid hent
                  clear hent
                  go_wp2_with fail
                  refine wp_region_late [some 33, some 34, some 35, some 36, some 37, some 38, some 39, none] (fun _ => 0) (epN (w.heap.size + 1) w1.heap.size (.slice AK k cK)) (EpG w.heap.size (w.heap.size + 2) (w.heap.size + 1) w.heap.size w1.heap.size w (Value.ownBlock (.slice AK k cK))) (epH (w.heap.size + 2) (w.heap.size + 1) w1.heap.size M (.slice AK k cK) k (entV es) r2) (by kernel_rfl) G0.out H0.out rfl (by kernel_rfl) (by kernel_rfl) (by kernel_rfl) (by kernel_rfl) (fun T hT => ?_)
                  simp only [List.filterMap_cons, List.filterMap_nil, id, putsS, Act.put, List.setIfInBounds_toArray, List.set_cons_zero, List.set_cons_succ] at hT
                  subst hT
                  refine ⟨⟨?_, ?_, ?_, ?_, ?_, ?_, ?_, ?_, trivial⟩, ?_⟩
                  · -- 0: Op.fieldAddr 24 t4 7
                    intro f w1' hG hO hL hF K hK
                    clear hF hO hL
                    dsimp only at hK ⊢
                    go_simp
                    exact hK.out _ _ hG rfl (fun _ _ _ h => h) (fun _ _ h => h)
                  · -- 1: Op.load 22 t33
                    intro f w1' hG hO hL hF K hK
                    have l7 : (epH (w.heap.size + 2) (w.heap.size + 1) w1.heap.size M (.slice AK k cK) k (entV es) r2) 7 w1' := hL 7 (Nat.le_of_ble_eq_true (by kernel_rfl)) (by kernel_rfl)
                    have d0 : (epN (w.heap.size + 1) w1.heap.size (.slice AK k cK)) 0 (f 33) (f 0) w1' := hF 0 (by kernel_rfl)
                    clear hF hO hL
                    dsimp only at hK ⊢
                    generalize hf33 : f 33 = v33 at *
                    subst d0
                    have y : w1'.cell? ⟨w1.heap.size, 7, none⟩ = some (.slice AK k cK) := Bk.cell l7 7
                    go_simp
                    exact hK.out _ _ hG rfl (fun _ _ _ h => h) (fun _ _ h => h)
                  · -- 2: Op.move t3
                    intro f w1' hG hO hL hF K hK
                    clear hF hO hL
                    dsimp only at hK ⊢
                    go_simp
                    exact hK.out _ _ hG rfl (fun _ _ _ h => h) (fun _ _ h => h)
                  · -- 3: Op.call ( value (Operand.func 37), args := #[t35], argTypes := #[73] )
                    intro f w1' hG hO hL hF K hK
                    have l3 : (epH (w.heap.size + 2) (w.heap.size + 1) w1.heap.size M (.slice AK k cK) k (entV es) r2) 3 w1' := hL 3 (Nat.le_of_ble_eq_true (by kernel_rfl)) (by kernel_rfl)
                    have d2 : (epN (w.heap.size + 1) w1.heap.size (.slice AK k cK)) 2 (f 35) (f 0) w1' := hF 2 (by kernel_rfl)
                    clear hF hO hL
                    dsimp only at hK ⊢
                    generalize hf35 : f 35 = v35 at *
                    subst d2
                    go_simp
                    have C := entry_any (w.heap.size + 1) r2 w1' l3 (by omega) hG.big HL2.out HR2.out
                    rw [HP.out] at C
                    refine C.mono ?_
                    rintro e w2' ⟨hk, rfl⟩
                    exact ⟨rfl, HPost.out _ (hG.call hk).bel⟩
                  · -- 4: Op.buildSlice 22 1 #[(0, t36)]
                    intro f w1' hG hO hL hF K hK
                    have d3 : (epN (w.heap.size + 1) w1.heap.size (.slice AK k cK)) 3 (f 36) (f 0) w1' := hF 3 (by kernel_rfl)
                    clear hF hO hL
                    dsimp only at hK ⊢
                    generalize hf36 : f 36 = v36 at *
                    exact False.elim d3
                  · -- 5: Op.call ( builtin append, args := #[t34, t37], argTypes := #[22, 22] )
                    intro f w1' hG hO hL hF K hK
                    have d1 : (epN (w.heap.size + 1) w1.heap.size (.slice AK k cK)) 1 (f 34) (f 0) w1' := hF 1 (by kernel_rfl)
                    have d4 : (epN (w.heap.size + 1) w1.heap.size (.slice AK k cK)) 4 (f 37) (f 0) w1' := hF 4 (by kernel_rfl)
                    clear hF hO hL
                    dsimp only at hK ⊢
                    generalize hf34 : f 34 = v34 at *
                    generalize hf37 : f 37 = v37 at *
                    exact False.elim d4
                  · -- 6: Op.fieldAddr 24 t4 7
                    intro f w1' hG hO hL hF K hK
                    clear hF hO hL
                    dsimp only at hK ⊢
                    go_simp
                    exact hK.out _ _ hG rfl (fun _ _ _ h => h) (fun _ _ h => h)
                  · -- 7: Op.store 22 t39 t38
                    intro f w1' hG hO hL hF K hK
                    have d6 : (epN (w.heap.size + 1) w1.heap.size (.slice AK k cK)) 6 (f 39) (f 0) w1' := hF 6 (by kernel_rfl)
                    have d5 : (epN (w.heap.size + 1) w1.heap.size (.slice AK k cK)) 5 (f 38) (f 0) w1' := hF 5 (by kernel_rfl)
                    clear hF hO hL
                    dsimp only at hK ⊢
                    generalize hf39 : f 39 = v39 at *
                    generalize hf38 : f 38 = v38 at *
                    exact False.elim d5
                  intro f w6 hG hF
                  have f3 : False := hF 3 (by decide)
                  exact f3.elim
                | some p =>
                  obtain ⟨en, r3⟩ := p
                  have HE2 := Lib.hid (show entsP (k + 1) r = some (es ++ [en], r3) by rw [entsP, HEP.out, Option.bind_some]; simp only [hent]; rfl)
                  have HP := Lib.hid hent
                  clear hent
                  obtain ⟨j0, hj0, hj1, hj2, hj3⟩ := info_parts info_ent
                  go_wp2_with fail
                  refine wp_region_late [some 33, some 34, some 35, some 36, some 37, some 38, some 39, none] (fun _ => 0) (epF (w.heap.size + 2) (w.heap.size + 1) w1.heap.size M (.slice AK k cK) en k (entV es) r3) (EpG w.heap.size (w.heap.size + 2) (w.heap.size + 1) w.heap.size w1.heap.size w (Value.ownBlock (.slice AK k cK))) (epH (w.heap.size + 2) (w.heap.size + 1) w1.heap.size M (.slice AK k cK) k (entV es) r2) (by kernel_rfl) G0.out H0.out rfl (by kernel_rfl) (by kernel_rfl) (by kernel_rfl) (by kernel_rfl) (fun T hT => ?_)
                  simp only [List.filterMap_cons, List.filterMap_nil, id, putsS, Act.put, List.setIfInBounds_toArray, List.set_cons_zero, List.set_cons_succ] at hT
                  subst hT
                  refine ⟨⟨?_, ?_, ?_, ?_, ?_, ?_, ?_, ?_, trivial⟩, ?_⟩
                  · -- 0: Op.fieldAddr 24 t4 7
                    intro f w1' hG hO hL hF K hK
                    clear hF hO hL
                    dsimp only at hK ⊢
                    go_simp
                    exact hK.out _ _ hG rfl (fun _ _ _ h => h) (fun _ _ h => h)
                  · -- 1: Op.load 22 t33
                    intro f w1' hG hO hL hF K hK
                    have l7 : (epH (w.heap.size + 2) (w.heap.size + 1) w1.heap.size M (.slice AK k cK) k (entV es) r2) 7 w1' := hL 7 (Nat.le_of_ble_eq_true (by kernel_rfl)) (by kernel_rfl)
                    have d0 : (epF (w.heap.size + 2) (w.heap.size + 1) w1.heap.size M (.slice AK k cK) en k (entV es) r3) 0 (f 33) (f 0) w1' := hF 0 (by kernel_rfl)
                    clear hF hO hL
                    dsimp only at hK ⊢
                    generalize hf33 : f 33 = v33 at *
                    subst d0
                    have y : w1'.cell? ⟨w1.heap.size, 7, none⟩ = some (.slice AK k cK) := Bk.cell l7 7
                    go_simp
                    exact hK.out _ _ hG rfl (fun _ _ _ h => h) (fun _ _ h => h)
                  · -- 2: Op.move t3
                    intro f w1' hG hO hL hF K hK
                    clear hF hO hL
                    dsimp only at hK ⊢
                    go_simp
                    exact hK.out _ _ hG rfl (fun _ _ _ h => h) (fun _ _ h => h)
                  · -- 3: Op.call ( value (Operand.func 37), args := #[t35], argTypes := #[73] )
                    intro f w1' hG hO hL hF K hK
                    have l3 : (epH (w.heap.size + 2) (w.heap.size + 1) w1.heap.size M (.slice AK k cK) k (entV es) r2) 3 w1' := hL 3 (Nat.le_of_ble_eq_true (by kernel_rfl)) (by kernel_rfl)
                    have d2 : (epF (w.heap.size + 2) (w.heap.size + 1) w1.heap.size M (.slice AK k cK) en k (entV es) r3) 2 (f 35) (f 0) w1' := hF 2 (by kernel_rfl)
                    clear hF hO hL
                    dsimp only at hK ⊢
                    generalize hf35 : f 35 = v35 at *
                    subst d2
                    go_simp
                    have C := entry_any (w.heap.size + 1) r2 w1' l3 (by omega) hG.big HL2.out HR2.out
                    rw [HP.out] at C
                    refine C.mono ?_
                    rintro e w2' ⟨hk, rfl, hr⟩
                    exact hK.out _ _ (hG.call hk) ⟨rfl, hr⟩ (fun j hj _ h => epF_call hk hG.s1 hG.s3 j hj _ _ h) (fun m hm h => epH_call hk hG.s1 hG.s3 m hm h)
                  · -- 4: Op.buildSlice 22 1 #[(0, t36)]
                    intro f w1' hG hO hL hF K hK
                    have d3 : (epF (w.heap.size + 2) (w.heap.size + 1) w1.heap.size M (.slice AK k cK) en k (entV es) r3) 3 (f 36) (f 0) w1' := hF 3 (by kernel_rfl)
                    clear hF hO hL
                    dsimp only at hK ⊢
                    generalize hf36 : f 36 = v36 at *
                    have d3 : v36 = .agg #[.int .i64 en.1, .string en.2] := d3.1
                    subst d3
                    go_simp
                    exact hK.out _ _ (hG.next ((Below.refl _ _).alloc (Nat.le_refl _) _)) ⟨w1'.heap.size, rfl, hG.big, (by have := hG.lt3; omega), (fun e => absurd (hG.kl _ e).2 (Nat.lt_irrefl _)), Bk.new w1' _ _⟩ (fun j _ _ h => epF_bel ((Below.refl _ _).alloc (Nat.le_refl _) _) j _ _ h) (fun m _ h => epH_bel ((Below.refl _ _).alloc (Nat.le_refl _) _) m h)
                  · -- 5: Op.call ( builtin append, args := #[t34, t37], argTypes := #[22, 22] )
                    intro f w1' hG hO hL hF K hK
                    have l5 : (epH (w.heap.size + 2) (w.heap.size + 1) w1.heap.size M (.slice AK k cK) k (entV es) r2) 5 w1' := hL 5 (Nat.le_of_ble_eq_true (by kernel_rfl)) (by kernel_rfl)
                    have l7 : (epH (w.heap.size + 2) (w.heap.size + 1) w1.heap.size M (.slice AK k cK) k (entV es) r2) 7 w1' := hL 7 (Nat.le_of_ble_eq_true (by kernel_rfl)) (by kernel_rfl)
                    have d1 : (epF (w.heap.size + 2) (w.heap.size + 1) w1.heap.size M (.slice AK k cK) en k (entV es) r3) 1 (f 34) (f 0) w1' := hF 1 (by kernel_rfl)
                    have d4 : (epF (w.heap.size + 2) (w.heap.size + 1) w1.heap.size M (.slice AK k cK) en k (entV es) r3) 4 (f 37) (f 0) w1' := hF 4 (by kernel_rfl)
                    clear hF hO hL
                    dsimp only at hK ⊢
                    generalize hf34 : f 34 = v34 at *
                    generalize hf37 : f 37 = v37 at *
                    have d1 : v34 = (.slice AK k cK) := d1
                    subst d1
                    obtain ⟨g, rfl, h0, h1, h2, h3⟩ := d4
                    have hcb : ∀ j u, [.int .i64 en.1, .string en.2][j]? = some u → w1'.cell? ((⟨g, 0, none⟩ : Addr).add j) = some u := fun j u hu => by
                      rw [show ((⟨g, 0, none⟩ : Addr).add j) = ⟨g, j, none⟩ by unfold Addr.add; split <;> simp_all, h3.cell j]; simpa using hu
                    obtain ⟨v', w2', hrun, hown, hgr, _, hat⟩ := run_append_own_at (P := Try.prog) (w := w1') (w.heap.size + 2) 22 22 54 j0 _ 2 24 Try.underlying22 hj0 hj1 hj2 hj3 rfl (by decide) (.slice AK k cK) k (entV es) l5 ⟨g, 0, none⟩ 1 1 [.int .i64 en.1, .string en.2] rfl hcb (by intro u hu; simp only [List.mem_cons, List.not_mem_nil, or_false] at hu; rcases hu with rfl | rfl <;> rfl) (by simp only [maxLen]; omega) (by omega) hG.big
                    have nk3 : Value.ownBlock (.slice AK k cK) ≠ some w1.heap.size := rowz_tyne l5 l7 (by decide)
                    refine Lib.wp_append_run w1' _ _ _ _ rfl _ _ rfl rfl _ w2' hrun (hK.out v' w2' (hG.app hgr) hown ?_ (fun m hm h => epH_app hgr hG.s1 (fun b e => (hG.kl b e).1) nk3 m hm h))
                    intro j hj hdep h
                    by_cases h7 : j = 7
                    · subst h7
                      exact absurd hdep (by rw [show depS _ 7 5 = true by kernel_rfl]; decide)
                    · exact epF_app rfl hgr hG.s1 (fun b e => (hG.kl b e).1) j hj h7 _ _ h
                  · -- 6: Op.fieldAddr 24 t4 7
                    intro f w1' hG hO hL hF K hK
                    clear hF hO hL
                    dsimp only at hK ⊢
                    go_simp
                    exact hK.out _ _ hG rfl (fun _ _ _ h => h) (fun _ _ h => h)
                  · -- 7: Op.store 22 t39 t38
                    intro f w1' hG hO hL hF K hK
                    have l7 : (epH (w.heap.size + 2) (w.heap.size + 1) w1.heap.size M (.slice AK k cK) k (entV es) r2) 7 w1' := hL 7 (Nat.le_of_ble_eq_true (by kernel_rfl)) (by kernel_rfl)
                    have d6 : (epF (w.heap.size + 2) (w.heap.size + 1) w1.heap.size M (.slice AK k cK) en k (entV es) r3) 6 (f 39) (f 0) w1' := hF 6 (by kernel_rfl)
                    have d5 : (epF (w.heap.size + 2) (w.heap.size + 1) w1.heap.size M (.slice AK k cK) en k (entV es) r3) 5 (f 38) (f 0) w1' := hF 5 (by kernel_rfl)
                    clear hF hO hL
                    dsimp only at hK ⊢
                    generalize hf39 : f 39 = v39 at *
                    generalize hf38 : f 38 = v38 at *
                    subst d6
                    have hd5 : w1'.ownsRow (w.heap.size + 2) 54 2 v38 (k + 1) ((entV es) ++ [.int .i64 en.1, .string en.2]) := d5
                    clear d5
                    obtain ⟨A5, c5, rfl, _, _, _⟩ := rowz_shape hd5
                    have hl7 : Bk w1' w1.heap.size 24 (msgV M (.slice AK k cK)) := l7
                    have y0 : w1'.cell? ⟨w1.heap.size, 7, none⟩ = some (.slice AK k cK) := Bk.cell hl7 7
                    have f0 := Bk.frozen hl7 7
                    have HD5 := Lib.hid hd5
                    have HL7 := Lib.hid hl7
                    have HG := Lib.hid hG
                    clear hd5 hl7 l7 hG
                    go_simp
                    refine hK.out undef _ (HG.out.set 7 (.slice A5 (k + 1) c5)) ⟨_, HL7.out.put 7 (.slice A5 (k + 1) c5), rowz_kept HD5.out (Kept1.set w1' w1.heap.size 7 _) (rowz_tyne HD5.out HL7.out (by decide))⟩ (fun j hj _ h => epF_set HL7.out HG.out.s1 HG.out.s3 7 _ j hj _ _ h) (fun m hm h => epH_set HL7.out HG.out.s1 HG.out.s3 7 _ m hm h)
                  intro f w6 hG hF
                  obtain ⟨V', g1, g2'⟩ : epF (w.heap.size + 2) (w.heap.size + 1) w1.heap.size M (.slice AK k cK) en k (entV es) r3 7 undef undef w6 := hF 7 (by decide)
                  have f3 : epF (w.heap.size + 2) (w.heap.size + 1) w1.heap.size M (.slice AK k cK) en k (entV es) r3 3 (f 36) (f 0) w6 := hF 3 (by decide)
                  have HG := Lib.hid hG
                  have HV1 := Lib.hid g1
                  have HV2 := Lib.hid g2'
                  have HRd := Lib.hid f3.2
                  clear hF hG g1 g2' f3
                  dsimp only
                  generalize f 33 = v33
                  generalize f 34 = v34
                  generalize f 35 = v35
                  generalize f 36 = v36
                  generalize f 37 = v37
                  generalize f 38 = v38
                  generalize f 39 = v39
                  have HS8 := Lib.hid (show BdS w w1.heap.size r3 (msgV M V') w6 from ⟨HG.out.bel, HG.out.res, HV1.out, HRd.out, HG.out.s3⟩)
                  have HO8 := Lib.hid (show w6.ownsRow (w.heap.size + 2) 54 2 V' (k + 1) (entV (es ++ [en])) by
                    rw [entV_append]
                    exact HV2.out)
                  clear HG HRd HV1 HV2 G0 H0
                  go_wp2_with fail
                  exact ⟨⟨k + 1, es ++ [en], r3, V', by omega, by go_num, HE2, HS8, HO8⟩, by simp [intOf]; omega⟩
              · obtain rfl : k = cc := by omega
                have hkk : ¬ (k : Int) < (k : Int) := by omega
                obtain ⟨_, _, e1, _, hseg, hfresh⟩ := rowz_shape HO.out
                injection e1 with e1 e2 e3
                subst e1
                subst e3
                have hsub := entsP_sub HEP.out
                obtain ⟨M2, hM2⟩ : ∃ M2 : MsgM, M2 = { M with ents := es } := ⟨_, rfl⟩
                have hkl : k = M2.ents.length := by rw [hM2]; exact hsub.2.2.1.symm
                have HKL := Lib.hid hkl
                have hnum : ∀ j, inI (M2.num j) := fun j => by
                  have := msgOf_num x zs bo es HZI.out j
                  rw [hM2, HM.out]
                  exact this
                have hM2k : M2.kind = (x : Int) := by rw [hM2, HM.out]; rfl
                have hents : ∀ e ∈ M2.ents, inI e.1 ∧ e.2.size ≤ 140737488355328 := fun e he => by
                  rw [hM2] at he
                  have h1 := hsub.2.1 HLr.out e he
                  exact ⟨h1.1, by omega⟩
                have HMg := Lib.hid (show ∀ w', Seg w' AK (entV es) → Mg w' M2 AK k cK from fun w' hs => ⟨hkl, by rw [hM2]; exact hs, hcK, by omega, by rw [hM2k]; exact ⟨by omega, by omega⟩, hnum, hents⟩)
                have HBP := Lib.hid (show bodyP (x :: l1) = if checkN M2 = 0 ∧ encN M2 = x :: l1 then some M2 else none from bodyP_some HNP.out (by
                  show (entsP k r).map _ = _
                  rw [HEP.out, Option.map_some, hM2, HM.out, HBO.out]))
                have HEL := Lib.hid (show ∀ y ∈ encN M2, y < 256 from encN_lt hnum (fun e he => (hents e he).1))
                have HSeg := Lib.hid hseg
                have HFr := Lib.hid hfresh
                have hcells : msgV M (.slice AK k cK) = msgC M2 AK k cK := by rw [hM2]; rfl
                have HB8 := Lib.hid (show BdS w w1.heap.size r2 (msgC M2 AK k cK) wr by rw [← hcells]; exact HS.out)
                clear hsub hkl hnum hM2k hents hseg hfresh hcells hM2 HS HO HEP HZI HLr HRn HM HBO
                have y0 : wr.cell? ⟨w1.heap.size, 0, none⟩ = some (.int .i64 M2.kind) := HB8.out.box.cell 0
                have y1 : wr.cell? ⟨w1.heap.size, 1, none⟩ = some (.int .i64 M2.n0) := HB8.out.box.cell 1
                have y2 : wr.cell? ⟨w1.heap.size, 2, none⟩ = some (.int .i64 M2.n1) := HB8.out.box.cell 2
                have y3 : wr.cell? ⟨w1.heap.size, 3, none⟩ = some (.int .i64 M2.n2) := HB8.out.box.cell 3
                have y4 : wr.cell? ⟨w1.heap.size, 4, none⟩ = some (.int .i64 M2.n3) := HB8.out.box.cell 4
                have y5 : wr.cell? ⟨w1.heap.size, 5, none⟩ = some (.int .i64 M2.n4) := HB8.out.box.cell 5
                have y6 : wr.cell? ⟨w1.heap.size, 6, none⟩ = some (.int .i64 M2.n5) := HB8.out.box.cell 6
                have y7 : wr.cell? ⟨w1.heap.size, 7, none⟩ = some (.slice AK k cK) := HB8.out.box.cell 7
                have y8 : wr.cell? ⟨w1.heap.size, 8, none⟩ = some (.bool M2.ok) := HB8.out.box.cell 8
                have y9 : wr.cell? ⟨w1.heap.size, 9, none⟩ = some (.int .i64 M2.n6) := HB8.out.box.cell 9
                by_cases hck : checkN M2 = 0
                · have C1 := wenc_ok M2 AK k cK wr (HMg.out wr HSeg.out) hck
                  unfold msgC at C1
                  have C1 := Lib.hid C1
                  have HCK := Lib.hid hck
                  clear hck
                  go_wp2_with fail
                  refine C1.out.mono ?_
                  rintro e w8 ⟨⟨A2, c2, rfl, hc2, hs2⟩, hb8⟩
                  have HB9 := Lib.hid (HB8.out.next hb8)
                  have hAn := HA.out.bel HB9.out.bel
                  have CE := equal_any A2 A (encN M2).length n c2 c (encN M2) (x :: l1) rfl HN.out w8 hs2 hAn HEL.out HL.out
                  have HSg8 := Lib.hid (HSeg.out.bel hb8)
                  obtain ⟨en, hen⟩ : ∃ en, en = (encN M2).length := ⟨_, rfl⟩
                  rw [← hen] at CE hc2
                  rw [← hen]
                  by_cases heq : encN M2 = x :: l1
                  · rw [decide_eq_true heq] at CE
                    have CE := Lib.hid CE
                    have HEQ := Lib.hid heq
                    have z0 : w8.cell? ⟨w1.heap.size, 0, none⟩ = some (.int .i64 M2.kind) := HB9.out.box.cell 0
                    have z1 : w8.cell? ⟨w1.heap.size, 1, none⟩ = some (.int .i64 M2.n0) := HB9.out.box.cell 1
                    have z2 : w8.cell? ⟨w1.heap.size, 2, none⟩ = some (.int .i64 M2.n1) := HB9.out.box.cell 2
                    have z3 : w8.cell? ⟨w1.heap.size, 3, none⟩ = some (.int .i64 M2.n2) := HB9.out.box.cell 3
                    have z4 : w8.cell? ⟨w1.heap.size, 4, none⟩ = some (.int .i64 M2.n3) := HB9.out.box.cell 4
                    have z5 : w8.cell? ⟨w1.heap.size, 5, none⟩ = some (.int .i64 M2.n4) := HB9.out.box.cell 5
                    have z6 : w8.cell? ⟨w1.heap.size, 6, none⟩ = some (.int .i64 M2.n5) := HB9.out.box.cell 6
                    have z7 : w8.cell? ⟨w1.heap.size, 7, none⟩ = some (.slice AK k cK) := HB9.out.box.cell 7
                    have z8 : w8.cell? ⟨w1.heap.size, 8, none⟩ = some (.bool M2.ok) := HB9.out.box.cell 8
                    have z9 : w8.cell? ⟨w1.heap.size, 9, none⟩ = some (.int .i64 M2.n6) := HB9.out.box.cell 9
                    have t0 : w8.cell? ⟨w.heap.size, 0, none⟩ = some (.int .i64 0) := HB9.out.res.cell 0
                    have t1 : w8.cell? ⟨w.heap.size, 1, none⟩ = some (.int .i64 0) := HB9.out.res.cell 1
                    have t2 : w8.cell? ⟨w.heap.size, 2, none⟩ = some (.int .i64 0) := HB9.out.res.cell 2
                    have t3 : w8.cell? ⟨w.heap.size, 3, none⟩ = some (.int .i64 0) := HB9.out.res.cell 3
                    have t4 : w8.cell? ⟨w.heap.size, 4, none⟩ = some (.int .i64 0) := HB9.out.res.cell 4
                    have t5 : w8.cell? ⟨w.heap.size, 5, none⟩ = some (.int .i64 0) := HB9.out.res.cell 5
                    have t6 : w8.cell? ⟨w.heap.size, 6, none⟩ = some (.int .i64 0) := HB9.out.res.cell 6
                    have t7 : w8.cell? ⟨w.heap.size, 7, none⟩ = some (.slice none 0 0) := HB9.out.res.cell 7
                    have t8 : w8.cell? ⟨w.heap.size, 8, none⟩ = some (.bool false) := HB9.out.res.cell 8
                    have t9 : w8.cell? ⟨w.heap.size, 9, none⟩ = some (.int .i64 0) := HB9.out.res.cell 9
                    have p0 := HB9.out.res.frozen 0
                    have p1 := HB9.out.res.frozen 1
                    have p2 := HB9.out.res.frozen 2
                    have p3 := HB9.out.res.frozen 3
                    have p4 := HB9.out.res.frozen 4
                    have p5 := HB9.out.res.frozen 5
                    have p6 := HB9.out.res.frozen 6
                    have p7 := HB9.out.res.frozen 7
                    have p8 := HB9.out.res.frozen 8
                    have p9 := HB9.out.res.frozen 9
                    clear hb8 hs2 hAn hen heq C1 y0 y1 y2 y3 y4 y5 y6 y7 y8 y9
                    have SET := set_msg (Nat.le_refl _) HB9.out.bel HB9.out.res (.int .i64 M2.kind) (.int .i64 M2.n0) (.int .i64 M2.n1) (.int .i64 M2.n2) (.int .i64 M2.n3) (.int .i64 M2.n4) (.int .i64 M2.n5) (.slice AK k cK) (.bool M2.ok) (.int .i64 M2.n6)
                    have HSET := Lib.hid SET
                    clear SET
                    go_wp2_with fail
                    refine CE.out.mono ?_
                    rintro e w9 ⟨rfl, rfl⟩
                    clear CE
                    go_wp2_with fail
                    generalize hwf : ((((((((((w8.setCell ⟨w.heap.size, 0, none⟩ (.int .i64 M2.kind)).setCell ⟨w.heap.size, 1, none⟩ (.int .i64 M2.n0)).setCell ⟨w.heap.size, 2, none⟩ (.int .i64 M2.n1)).setCell ⟨w.heap.size, 3, none⟩ (.int .i64 M2.n2)).setCell ⟨w.heap.size, 4, none⟩ (.int .i64 M2.n3)).setCell ⟨w.heap.size, 5, none⟩ (.int .i64 M2.n4)).setCell ⟨w.heap.size, 6, none⟩ (.int .i64 M2.n5)).setCell ⟨w.heap.size, 7, none⟩ (.slice AK k cK)).setCell ⟨w.heap.size, 8, none⟩ (.bool M2.ok)).setCell ⟨w.heap.size, 9, none⟩ (.int .i64 M2.n6)) = wf
                    obtain ⟨g1, g2, g3⟩ := HSET.out wf hwf
                    have g3 := HSg8.out.kept g3 (fun a e => by have := HFr.out a e; omega)
                    clear hwf HSET t0 t1 t2 t3 t4 t5 t6 t7 t8 t9 p0 p1 p2 p3 p4 p5 p6 p7 p8 p9 z0 z1 z2 z3 z4 z5 z6 z7 z8 z9
                    have z0 : wf.cell? ⟨w.heap.size, 0, none⟩ = some (.int .i64 M2.kind) := g2.cell 0
                    have z1 : wf.cell? ⟨w.heap.size, 1, none⟩ = some (.int .i64 M2.n0) := g2.cell 1
                    have z2 : wf.cell? ⟨w.heap.size, 2, none⟩ = some (.int .i64 M2.n1) := g2.cell 2
                    have z3 : wf.cell? ⟨w.heap.size, 3, none⟩ = some (.int .i64 M2.n2) := g2.cell 3
                    have z4 : wf.cell? ⟨w.heap.size, 4, none⟩ = some (.int .i64 M2.n3) := g2.cell 4
                    have z5 : wf.cell? ⟨w.heap.size, 5, none⟩ = some (.int .i64 M2.n4) := g2.cell 5
                    have z6 : wf.cell? ⟨w.heap.size, 6, none⟩ = some (.int .i64 M2.n5) := g2.cell 6
                    have z7 : wf.cell? ⟨w.heap.size, 7, none⟩ = some (.slice AK k cK) := g2.cell 7
                    have z8 : wf.cell? ⟨w.heap.size, 8, none⟩ = some (.bool M2.ok) := g2.cell 8
                    have z9 : wf.cell? ⟨w.heap.size, 9, none⟩ = some (.int .i64 M2.n6) := g2.cell 9
                    refine bodyPost_ret (v := .agg (msgC M2 AK k cK)) (by simp [results, Try.results26, go_sem, msgC, z0, z1, z2, z3, z4, z5, z6, z7, z8, z9]) rfl ⟨g1, ?_⟩
                    rw [HBP.out, if_pos ⟨HCK.out, HEQ.out⟩]
                    exact ⟨AK, cK, by rw [← HKL.out], by rw [← HKL.out]; exact HMg.out wf g3, HFr.out⟩
                  · rw [decide_eq_false heq] at CE
                    have CE := Lib.hid CE
                    have HZ := Lib.hid (show bodyP (x :: l1) = none by rw [HBP.out, if_neg (fun h => heq h.2)])
                    clear hb8 hs2 hAn hen heq C1 y0 y1 y2 y3 y4 y5 y6 y7 y8 y9
                    go_wp2_with fail
                    refine CE.out.mono ?_
                    rintro e w9 ⟨rfl, rfl⟩
                    clear CE
                    go_wp2_with fail
                    refine ⟨rfl, HB9.out.bel, ?_⟩
                    rw [HZ.out]
                    rfl
                · have C1 := wenc_no M2 AK k cK wr (HMg.out wr HSeg.out) hck
                  have HZ := Lib.hid (show bodyP (x :: l1) = none by rw [HBP.out, if_neg (fun h => hck h.1)])
                  unfold msgC at C1
                  obtain ⟨ck, hckk⟩ : ∃ ck, ck = checkN M2 := ⟨_, rfl⟩
                  rw [← hckk] at C1 hck
                  have hne : ((ck : Int) != 0) = true := by rw [bne_iff_ne]; omega
                  have C1 := Lib.hid C1
                  clear hck hckk
                  go_wp2_with fail
                  refine C1.out.mono ?_
                  rintro e w8 ⟨rfl, hb8⟩
                  have HB9 := Lib.hid (HB8.out.next hb8)
                  clear hb8 C1
                  go_wp2_with fail
                  refine ⟨rfl, HB9.out.bel, ?_⟩
                  rw [HZ.out]
                  rfl
end Go.Proofs.Ytgifbjomaenlnaa
