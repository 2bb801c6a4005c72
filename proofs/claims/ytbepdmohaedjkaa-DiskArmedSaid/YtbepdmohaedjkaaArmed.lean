/- The walk of DiskArmed. No condition. -/
import Derived.Test.YtbepdmohaedjkaaDiskN
import Derived.Test.YtbepdmohaedjkaaLoads
namespace Go.Proofs.Ytbepdmohaedjkaa
open Go.RowKit

set_option maxRecDepth 100000 in
set_option maxHeartbeats 1000000 in
theorem guard_meth (k : FuncId) (x : Value) (w : World) (R : Bool → World → Prop) (hc : ∀ w, (callFunc k #[x]).run Try.prog w = .ok (.enter k #[x]) w)
    (hf : Calls Try.prog k #[x] (w.alloc (.cells #[.bool false] 4)) (GPost w.heap.size R)) :
    Calls Try.prog 27 #[.func (.func k) #[x] #[]] w (GEnd R) := by
  have hmf : ∀ (fn : Fn) (first cap : Array Value) (w : World), (Instr.makeFunc fn first cap).run Try.prog w = .ok (.func fn first cap) w := fun _ _ _ _ => rfl
  have heq : ∀ w, (binOp BinOp.eql 1 (.func (.func k) #[x] #[]) .nilFunc).run Try.prog w = .ok (.bool false) w := fun _ => rfl
  have HF := Lib.hid hf
  clear hf
  go_enter_defers Try.func27, Try.ntmps27
  go_wp2_with fail
  refine HF.out.mono ?_
  rintro e w1 ⟨hb, ⟨rfl, hR⟩ | ⟨rfl, hR⟩⟩
  · have c0 := hb.cell 0
    have f0 := hb.frozen 0
    have HB := Lib.hid (hb.put 0 (.bool false))
    have HR := Lib.hid hR
    clear hb hR
    generalize w.heap.size = b0 at *
    go_wp2_with fail
    refine leaves_cons (f := 51) (args := #[.pointer (some ⟨b0, 0, none⟩)]) (by simp) (by simp [go_sem]) ?_
    refine (catch_idle b0 _).mono ?_
    rintro e u' w'' ⟨rfl, rfl, rfl⟩
    have c1 := HB.out.cell 0
    simp [Leaves, settle, results, Try.results27, go_sem, c1]
    exact ⟨false, rfl, HR.out⟩
  · have HB := Lib.hid hb
    have HR := Lib.hid hR
    have HB2 := Lib.hid ((hb.alloc (.cells #[] 97)).put 0 (.bool true))
    clear hb hR
    generalize w.heap.size = b0 at *
    refine leaves_cons (f := 51) (args := #[.pointer (some ⟨b0, 0, none⟩)]) (by simp) (by simp [go_sem]) ?_
    refine (catch_pan b0 false [] _ HB.out).mono ?_
    rintro e u' w'' ⟨rfl, rfl, rfl⟩
    have c1 := HB2.out.cell 0
    simp [Leaves, settle, results, Try.results27, go_sem, c1]
    exact ⟨true, rfl, HR.out⟩
section
variable {w w' : World} {S : Nat → Prop} {p T : Nat} {D D' : DM}
theorem guard_flush_out (h : Dsk w S p T D) (hu : D.use = none) :
    Calls Try.prog 27 #[.func (.func 28) #[.pointer (some ⟨p, 0, none⟩)] #[]] w fun e w' => e = .returned (.bool true) ∧ Dsk w' S p T D ∧ Kp S S w w' := by
  have hb := Bk.new w 4 #[.bool false]
  refine (guard_meth _ _ w (fun b w' => b = true ∧ Dsk w' S p T D ∧ Kp S S w w') (fun _ => rfl) ((flush_out (h.alloc _) hu).mono ?_)).mono ?_
  · rintro e w1 ⟨rfl, rfl⟩
    have hB : Below w.heap.size w (((w.alloc (.cells #[.bool false] 4)).alloc (.cells #[] 97)).setCell ⟨w.heap.size, 0, none⟩ (.bool true)) := by
      refine (((Below.refl _ _).alloc (Nat.le_refl _) _).alloc (by simp) _).setCell ?_ _
      exact Nat.le_refl _
    exact ⟨hb, .inr ⟨rfl, rfl, h.bel hB, Kp.of_bel hB S⟩⟩
  · rintro e w1 ⟨b, rfl, rfl, h1, h2⟩
    exact ⟨rfl, h1, h2⟩
theorem guard_flush_ok (h : Dsk w S p T D) (hu : D.use = some D') :
    Calls Try.prog 27 #[.func (.func 28) #[.pointer (some ⟨p, 0, none⟩)] #[]] w fun e w' => e = .returned (.bool false) ∧ Dsk w' S p T D'.flush ∧ Kp S S w w' := by
  have hb := Bk.new w 4 #[.bool false]
  have hn : ¬ S w.heap.size := fun hs => Nat.lt_irrefl _ (h.inn _ hs)
  refine (guard_meth _ _ w (fun b w' => b = false ∧ Dsk w' S p T D'.flush ∧ Kp S S w w') (fun _ => rfl) ((flush_ok (h.alloc _) hu).mono ?_)).mono ?_
  · rintro e w1 ⟨rfl, h1, h2⟩
    have hk : Kp (fun i => i = w.heap.size) (fun _ => False) w1 (w1.setCell ⟨w.heap.size, 0, none⟩ (.bool false)) :=
      ((Kp.refl (fun i => i = w.heap.size) w1).setCell (p := ⟨w.heap.size, 0, none⟩) (.inl rfl) _).mono (fun _ h => h) (fun _ hf => hf.elim)
    exact ⟨h2.bk hb hn, .inl ⟨rfl, rfl, h1.kept hk (fun i hi e => hn (e ▸ hi)), ((((Kp.refl S w).alloc _).trans h2).setCell (p := ⟨w.heap.size, 0, none⟩) (.inr (Nat.le_refl _)) _)⟩⟩
  · rintro e w1 ⟨b, rfl, rfl, h1, h2⟩
    exact ⟨rfl, h1, h2⟩
end
/-- A flush. -/
def flO : OpM := ⟨3, 0, [], 0, 0, 0⟩
theorem fl_step (T : Nat) (img : List Nat) (left : Int) : plStep T ⟨img, [], true, left⟩ flO = if left = 0 then (⟨img, [], true, left⟩, [], 9) else (⟨img, [], true, left - 1⟩, [], 0) := by
  unfold plStep doR flO DM.use
  by_cases h : left = 0
  · simp [h]
  · simp [h, DM.flush, landN]
theorem fl_says (T : Nat) (img : List Nat) (arm m : Nat) : ∀ k, k ≤ m →
    (plS T ⟨img, [], true, (arm : Int)⟩ (List.replicate m flO) k).1 = ⟨img, [], true, ((arm - k : Nat) : Int)⟩ ∧ (plS T ⟨img, [], true, (arm : Int)⟩ (List.replicate m flO) k).2.2 = (List.range k).map (fun i => if i < arm then (0 : Int) else 9)
  | 0, _ => ⟨by simp [plS], by simp [plS]⟩
  | k + 1, hk => by
    obtain ⟨h1, h2⟩ := fl_says T img arm m k (by omega)
    have hg : (List.replicate m flO).getD k ⟨0, 0, [], 0, 0, 0⟩ = flO := by simp [List.getD, show k < m by omega]
    have hs : plStep T (plS T ⟨img, [], true, (arm : Int)⟩ (List.replicate m flO) k).1 flO = (⟨img, [], true, ((arm - (k + 1) : Nat) : Int)⟩, [], if k < arm then 0 else 9) := by
      rw [h1, fl_step]
      by_cases hka : k < arm
      · rw [if_neg (by omega), if_pos hka]
        congr 3
        omega
      · rw [if_pos (by omega), if_neg hka, show arm - (k + 1) = arm - k by omega]
    constructor
    · simp only [plS, hg, hs]
    · simp only [plS, hg, hs, h2, List.range_succ, List.map_append, List.map_cons, List.map_nil]
section
variable {w : World}
set_option maxRecDepth 100000 in
set_option maxHeartbeats 2000000 in
theorem armed_no (a m : Int) (hb : ¬ (0 ≤ a ∧ a ≤ 300 ∧ 0 ≤ m ∧ m ≤ 20)) :
    Calls Try.prog 6 #[.int .i64 a, .int .i64 m] w fun e w' => e = .returned (.bool true) ∧ Below w.heap.size w w' := by
  rcases (show a < 0 ∨ (¬ a < 0 ∧ 300 < a) ∨ (¬ a < 0 ∧ ¬ 300 < a ∧ m < 0) ∨ (¬ a < 0 ∧ ¬ 300 < a ∧ ¬ m < 0 ∧ 20 < m) by omega) with h1 | ⟨h1, h2⟩ | ⟨h1, h2, h3⟩ | ⟨h1, h2, h3, h4⟩
  all_goals
    clear hb
    go_enter Try.func6, Try.ntmps6
    go_wp2_with (go_at_call 15; refine awake_any.mono ?_; rintro e w7 ⟨rfl, hb7⟩; have HB7 := Lib.hid hb7; clear hb7)
    go_ret
    exact ⟨rfl, HB7.out⟩
set_option maxRecDepth 100000 in
set_option maxHeartbeats 8000000 in
theorem armed_ok (a m : Nat) (ha : a ≤ 300) (hm : m ≤ 20) :
    Calls Try.prog 6 #[.int .i64 (a : Int), .int .i64 (m : Int)] w fun e w' => e = .returned (.bool true) ∧ Below w.heap.size w w' := by
  obtain ⟨j0, hi0, hz0, hz1, hz2⟩ := info_parts info_op
  go_enter Try.func6, Try.ntmps6
  go_wp2_with fail
  go_loopw [5, 6] (fun v i wr => ∃ k : Nat, k ≤ a + m ∧ i = .int .i64 k ∧ Hid (OpIn wr w.heap.size v (List.replicate k flO)) ∧ Hid (Below w.heap.size w wr)) (fun _ i _ => a + m - (intOf i).toNat)
  case atStart => exact ⟨0, Nat.zero_le _, rfl, Lib.hid ⟨[], World.ownsRow_lit w #[] 0 (Nat.le_refl _) (Nat.zero_le _) rfl, fun i hi => by simp at hi⟩, Lib.hid ((Below.refl _ _).alloc (Nat.le_refl _) _)⟩
  case round =>
    obtain ⟨k, hk, rfl, HI, HB⟩ := hrel
    obtain ⟨Av, cv, hv, hcv⟩ := HI.out.shape
    rw [List.length_replicate] at hv hcv
    subst hv
    by_cases hlt : k < a + m
    · have i1 : (k : Int) < (a : Int) + (m : Int) := by omega
      obtain ⟨xs, hx1, hx2⟩ := HI.out
      rw [List.length_replicate] at hx1
      have HX1 := Lib.hid hx1
      have HX2 := Lib.hid hx2
      have HN7 := Lib.hid (show ∀ j u, ([.int .i64 3, .int .i64 0, .slice none 0 0, .int .u64 0, .int .i64 0, .int .i64 0] : List Value)[j]? = some u → (wr.alloc (.cells #[.int .i64 3, .int .i64 0, .slice none 0 0, .int .u64 0, .int .i64 0, .int .i64 0] 36)).cell? ((⟨wr.heap.size, 0, none⟩ : Addr).add j) = some u from World.news_of_block (cs := #[.int .i64 3, .int .i64 0, .slice none 0 0, .int .u64 0, .int .i64 0, .int .i64 0]) (t := 36) (fr := (0, 0)) (Bk.new wr _ _))
      clear hx1 hx2
      go_wp2_with (at_builtin; (refine wpList_append_lies _ rfl _ _ _ rfl w.heap.size 36 j0 _ 6 64 Try.underlying22 hi0 hz0 hz1 hz2 rfl (by omega) _ k xs rfl (HX1.out.alloc _) ⟨wr.heap.size, 0, none⟩ 1 1 [.int .i64 3, .int .i64 0, .slice none 0 0, .int .u64 0, .int .i64 0, .int .i64 0] rfl rfl HN7.out (cl_one flO none 0) (by omega) (by unfold maxLen; omega) (by omega) (by have h1 := HB.out.size; simp; omega) _ rfl ?_); intro g cap w8 hown hgrow hat hlt8; have HO8 := Lib.hid hown; have HG8 := Lib.hid hgrow; have HAT := Lib.hid hat; clear hown hgrow hat hlt8)
      refine ⟨⟨k + 1, by omega, by go_num, Lib.hid ?_, Lib.hid ?_⟩, by simp [intOf]; omega⟩
      · rw [List.replicate_succ']
        exact OpIn.push (o := flO) (A := none) (c := 0) (List.length_replicate ..) (by rw [HX1.out.1]) (fun i hi => by
          obtain ⟨A, c, a1, a2, a3⟩ := HX2.out i hi
          exact ⟨A, c, a1, a2.bel ((Below.refl _ _).alloc (Nat.le_refl _) _), a3⟩) (fun hn => absurd rfl hn) (Nat.le_refl _) (Nat.zero_le _) (show (0 : Nat) < 18446744073709551616 by omega) (Nat.zero_le _) HO8.out HG8.out HAT.out
      · refine (HB.out.alloc HB.out.size _).grown HG8.out ?_ (fun q hq => (HX1.out.lt q hq).1)
        have h1 := HB.out.size
        simp
        omega
    · have hkm : k = a + m := by omega
      subst hkm
      have i1 : ¬ ((a + m : Nat) : Int) < (a : Int) + (m : Int) := by omega
      have HP : Hid (Calls Try.prog 14 #[.int .i64 1, .int .i64 (a : Int), .slice Av (a + m) cv] wr (PlayEnd wr 1 (a + m) (plS 1 ((DM.new 1).armed (a : Int)) (List.replicate (a + m) flO) (a + m)))) :=
        Lib.hid (play_ok 1 (by omega) (by omega) (a : Int) (by omega) Av cv (List.replicate (a + m) flO) (a + m) (List.length_replicate ..).symm (by omega) hcv HI.out.at)
      have HD : Hid ((DM.new 1).armed (a : Int) = ⟨List.replicate (1 * 256) 0, [], true, (a : Int)⟩) := Lib.hid (by
        unfold DM.armed DM.new
        congr 1
        simp)
      have HF := Lib.hid (fl_says 1 (List.replicate (1 * 256) 0) a (a + m) (a + m) (Nat.le_refl _)).2
      rw [HD.out] at HP
      generalize plS 1 ⟨List.replicate (1 * 256) 0, [], true, (a : Int)⟩ (List.replicate (a + m) flO) (a + m) = x at *
      clear hlt
      go_wp2_with fail
      refine HP.out.mono ?_
      rintro e w2 ⟨S, bd, br, be, gr, ge, p, Ai, ci, rfl, hW, _, _, _⟩
      have HB2 := Lib.hid (HB.out.trans (hW.bel.mono HB.out.size))
      have HE := Lib.hid (show ∀ i, i < a + m → w2.cell? ⟨ge, i, none⟩ = some (.int .i64 (if i < a then (0 : Int) else 9)) from fun i hi => by
        rw [hW.errs.cell i, List.getElem?_toArray, HF.out, List.getElem?_append_left (by simp; exact hi)]
        simp [hi])
      clear hW
      go_wp2_with fail
      go_loopw [51] (fun i wx => ∃ k : Nat, k ≤ a + m ∧ i = .int .i64 k ∧ wx = w2) (fun i _ => a + m - (intOf i).toNat)
      case atStart => exact ⟨0, Nat.zero_le _, rfl, rfl⟩
      case round =>
        obtain ⟨k, hk2, rfl, rfl⟩ := hrel
        by_cases hlt : k < a + m
        · have i2 : (k : Int) < (a : Int) + (m : Int) := by omega
          have ce := HE.out k hlt
          by_cases hka : k < a
          · rw [if_pos hka] at ce
            have i3 : ¬ (a : Int) ≤ (k : Int) := by omega
            clear hlt
            go_wp2_with fail
            exact ⟨⟨k + 1, by omega, by go_num, trivial⟩, by simp [intOf]; omega⟩
          · rw [if_neg hka] at ce
            have i3 : (a : Int) ≤ (k : Int) := by omega
            clear hlt
            go_wp2_with fail
            exact ⟨⟨k + 1, by omega, by go_num, trivial⟩, by simp [intOf]; omega⟩
        · have hkm : k = a + m := by omega
          have i2 : ¬ (k : Int) < (a : Int) + (m : Int) := by omega
          have HN : Hid (Calls Try.prog 25 #[.int .i64 1] wr fun e w' => ∃ p S, e = .returned (.tuple #[.pointer (some ⟨p, 0, none⟩), .int .i64 0]) ∧ Dsk w' S p 1 (DM.new 1) ∧ (∀ i, S i → wr.heap.size ≤ i) ∧ Below wr.heap.size wr w') := Lib.hid (new_ok 1 (by omega) (by omega) wr)
          clear hlt hkm
          go_wp2_with fail
          refine HN.out.mono ?_
          rintro e w3 ⟨q, S3, rfl, hD3, hS3, hb3⟩
          have HB3 := Lib.hid (HB2.out.trans (hb3.mono HB2.out.size))
          have HS3 := Lib.hid (show ∀ i, S3 i → w.heap.size ≤ i from fun i hi => Nat.le_trans HB2.out.size (hS3 i hi))
          have HA := Lib.hid (hD3.arm 0 (by omega))
          clear hD3 hS3 hb3
          go_wp2_with fail
          refine HA.out.mono ?_
          rintro e w4 ⟨rfl, hD4, hk4⟩
          have HB4 := Lib.hid (HB3.out.trans (hk4.below HS3.out HB3.out.size))
          have HG := Lib.hid (guard_flush_out hD4 (by simp [DM.armed, DM.use]))
          clear hD4 hk4
          go_wp2_with fail
          refine HG.out.mono ?_
          rintro e w5 ⟨rfl, hD5, hk5⟩
          have HB5 := Lib.hid (HB4.out.trans (hk5.below HS3.out HB4.out.size))
          have HA5 := Lib.hid (hD5.arm (-1) (by omega))
          clear hD5 hk5
          go_wp2_with fail
          refine HA5.out.mono ?_
          rintro e w6 ⟨rfl, hD6, hk6⟩
          have HB6 := Lib.hid (HB5.out.trans (hk6.below HS3.out HB5.out.size))
          have HD6 := Lib.hid hD6
          clear hD6 hk6
          go_wp2_with fail
          refine awake_any.mono ?_
          rintro e w7 ⟨rfl, hb7⟩
          have HB7 := Lib.hid (HB6.out.trans (hb7.mono HB6.out.size))
          have HG7 := Lib.hid (guard_flush_ok (HD6.out.bel hb7) (DM.use_off (by simp [DM.armed])))
          clear hb7
          go_wp2_with fail
          refine HG7.out.mono ?_
          rintro e w8 ⟨rfl, hD8, hk8⟩
          have HB8 := Lib.hid (HB7.out.trans (hk8.below HS3.out HB7.out.size))
          clear hD8 hk8
          go_wp2_with fail
          go_ret
          exact ⟨rfl, HB8.out⟩
theorem armed_any (a m : Int) (w : World) :
    Calls Try.prog 6 #[.int .i64 a, .int .i64 m] w fun e w' => e = .returned (.bool true) ∧ Below w.heap.size w w' := by
  by_cases h : 0 ≤ a ∧ a ≤ 300 ∧ 0 ≤ m ∧ m ≤ 20
  · have := armed_ok (w := w) a.toNat m.toNat (by omega) (by omega)
    rw [show ((a.toNat : Nat) : Int) = a by omega, show ((m.toNat : Nat) : Int) = m by omega] at this
    exact this
  · exact armed_no a m h
end
end Go.Proofs.Ytbepdmohaedjkaa
