/- The walk of framing a block. Conditions: the payload lies in memory; the table of the cyclic sum is laid. -/
import Derived.Test.YtockmpnclajjmaaDoorEnc
namespace Go.Proofs.YtockmpnclajjmaaDoor
open Go.RowKit

theorem add_none (b o j : Nat) : ((⟨b, o, none⟩ : Addr).add j) = ⟨b, o + j, none⟩ := by unfold Addr.add; split <;> simp_all
/-- A copy into a row of one's own, from whatever place on. -/
theorem wpList_copy_at {P : Program} (w : World) {ops : Array Oper} {rest : List Oper} {o : Oper} {a : Act} {Q : Exit → Act → World → Prop} (hgd : o.guard = none) (d s : Operand) (dT sT : TypeId)
    (ho : o.op = .call { callee := .builtin .copy, args := #[d, s], argTypes := #[dT, sT] }) (elem : TypeId) (hu : P.underlying dT = some (.slice elem)) (hsz : (P.info? elem).map (·.size) = some 1)
    (g off dLen dCap : Nat) (hd : a.eval d = .slice (some ⟨g, off, none⟩) dLen dCap) (A : Option Addr) (m c : Nat) (hs : a.eval s = .slice A m c)
    (pre mid post news : List Value) (t : TypeId) (hg : w.heap[g]? = some (.cells (pre ++ (mid ++ post)).toArray t (0, 0))) (hpre : off = pre.length) (hmid : m = mid.length) (hm : m = news.length) (hr : Seg w A news) (hfit : m ≤ dLen) (h1 : ∀ v ∈ news, v.oneCell' = true)
    (h : ∀ w', w'.heap[g]? = some (.cells (pre ++ (news ++ post)).toArray t (0, 0)) → Below g w w' → wpList P ops Q rest (a.put o.dst (goInt m)) w') : wpList P ops Q (o :: rest) a w := by
  by_cases hn : news = []
  · subst hn
    have hm0 : m = 0 := by simpa using hm
    obtain rfl : mid = [] := List.eq_nil_of_length_eq_zero (by omega)
    subst hm0
    exact wpList_copy_nothing hgd d s dT sT ho elem hu hsz (some ⟨g, off, none⟩) A dLen dCap _ c hd hs (by simp) (h w (by simpa using hg) (Below.refl _ _))
  · obtain ⟨b, o2, rfl, hb, hc⟩ := hr hn
    have hmn : news.length = Nat.min m dLen := by rw [← hm]; simp [Nat.min_eq_left hfit]
    refine wpList_copy_own hgd d s dT sT ho elem hu hsz g off dLen dCap ⟨b, o2, none⟩ m c hd hs (pre ++ (mid ++ post)).toArray t hg news hmn (fun j v hj => ?_) (by simp; omega) h1 ?_
    · have hj' := (List.getElem?_eq_some_iff.1 hj).1
      rw [add_none]
      rw [hc j hj', hj]
    · have e : ((pre ++ (mid ++ post)).toArray.toList.take off ++ (news ++ (pre ++ (mid ++ post)).toArray.toList.drop (off + news.length))).toArray = (pre ++ (news ++ post)).toArray := by
        subst hpre
        have e1 : (pre ++ (mid ++ post)).drop (pre.length + news.length) = post := by
          rw [← List.append_assoc, List.drop_left' (by rw [List.length_append]; omega)]
        simp only [List.take_left', e1]
      rw [e, ← hm]
      exact h _ (setRow_heap w g _ _ t _ hg) (below_setRow_ (Below.refl _ _) (Nat.le_refl _) _)

/-- What stands in memory while a block is framed: the row, the frame's own box. -/
structure EncW (w : World) (box : Array Value) (bs : List Nat) (w' : World) : Prop where
  row : Bk w' (w.heap.size + 1) 5 (u8s bs).toArray
  box : Bk w' w.heap.size 31 box
  bel : Below w.heap.size w w'
section
variable {w w' w'' : World} {box : Array Value} {bs bs' : List Nat}
theorem EncW.step (h : EncW w box bs w') (hr : Bk w'' (w.heap.size + 1) 5 (u8s bs').toArray) (hb : Below (w.heap.size + 1) w' w'') : EncW w box bs' w'' :=
  ⟨hr, h.box.below hb (by omega), h.bel.trans (hb.mono (by omega))⟩
theorem EncW.drew (h : EncW w box bs w') : EncW w box bs w'.drew := ⟨h.row.drew, h.box.drew, h.bel.drew⟩
theorem EncW.congr (h : EncW w box bs w') (e : bs = bs') : EncW w box bs' w' := e ▸ h
end
theorem bk_replicate (w : World) (n : Nat) : Bk (w.alloc (.cells (madeCells #[.int .u8 0] n) 5)) w.heap.size 5 (u8s (List.replicate n 0)).toArray := by
  have e : madeCells #[Value.int .u8 0] n = (u8s (List.replicate n 0)).toArray := by
    apply Array.toList_inj.1
    rw [toList_madeCells_one]
    simp [u8s]
  rw [e]
  exact Bk.new _ _ _

theorem enc_cell {w w' : World} {box : Array Value} {bs : List Nat} (h : EncW w box bs w') (i : Nat) (hi : i < bs.length) : w'.cell? ⟨w.heap.size + 1, i, none⟩ = some (.int .u8 ((bs[i] : Nat) : Int)) := by
  rw [h.row.cell i]
  simp [u8s, hi]
theorem enc_mark {w w1 w2 : World} {box : Array Value} (h : EncW w box (List.replicate 256 0) w1) (hr : w2.heap[w.heap.size + 1]? = some (.cells ((u8s (List.replicate 256 0)).toArray.toList.take 0 ++ Lib.byteCells (ByteArray.data { data := #[80, 98] }).toList ++ (u8s (List.replicate 256 0)).toArray.toList.drop (0 + 2)).toArray 5 (0, 0))) (hb : Below (w.heap.size + 1) w1 w2) :
    EncW w box ([80, 98] ++ 0 :: ([0] ++ List.replicate 252 0)) w2 := by
  refine h.step ?_ hb
  unfold Bk
  rw [hr]
  congr 1

def restN (seqb : List Nat) : List Nat := seqb ++ (List.replicate 4 0 ++ (List.replicate 4 0 ++ List.replicate 232 0))
theorem enc_front {w w1 : World} {box : Array Value} (kind : Nat) (h : EncW w box ([80, 98] ++ 0 :: ([0] ++ List.replicate 252 0)) w1) :
    EncW w box ([80, 98, kind, 1] ++ ([0, 0] ++ ([0, 0] ++ restN (List.replicate 8 0)))) ((w1.setCell ⟨w.heap.size + 1, 2, none⟩ (.int .u8 (kind : Int))).setCell ⟨w.heap.size + 1, 3, none⟩ (.int .u8 1)) := by
  have h1 := u8s_put [80, 98] ([0] ++ List.replicate 252 0) 0 kind (w.heap.size + 1) w1 h.row
  have h2 := u8s_put [80, 98, kind] (List.replicate 252 0) 0 1 (w.heap.size + 1) _ h1
  have e : [80, 98, kind] ++ 1 :: List.replicate 252 0 = [80, 98, kind, 1] ++ ([0, 0] ++ ([0, 0] ++ restN (List.replicate 8 0))) := rfl
  rw [e] at h2
  exact h.step h2 (((Below.refl (w.heap.size + 1) w1).setCell (p := ⟨w.heap.size + 1, 2, none⟩) (Nat.le_refl _) _).setCell (p := ⟨w.heap.size + 1, 3, none⟩) (Nat.le_refl _) _)
theorem EncW.seg {w w' : World} {box : Array Value} {bs : List Nat} (h : EncW w box bs w') : Seg w' (some ⟨w.heap.size + 1, 0, none⟩) (u8s bs) := Seg.of_block h.row (fun i hi => by simp)

set_option maxRecDepth 100000 in
set_option maxHeartbeats 4000000 in
theorem encode_ok (kind seq place : Nat) (A : Option Addr) (n c : Nat) (l : List Nat) (hn : n = l.length) (hk : kind < 256) (hs : seq < 18446744073709551616) (hp : place < 2048) (h232 : n ≤ 232) (w : World) (hA : Seg w A (u8s l)) (hl : ∀ x ∈ l, x < 256) (hT : Tab w) :
    Calls Tryd.prog 5 #[.agg #[.int .i64 kind, .int .u64 seq, .slice A n c], .int .i64 place] w fun e w' => ∃ g, e = .returned (.tuple #[.slice (some ⟨g, 0, none⟩) 256 256, .int .i64 0]) ∧ w.heap.size ≤ g ∧ Bk w' g 5 (u8s (encN kind seq l place)).toArray ∧ Below w.heap.size w w' := by
  obtain ⟨i0, hi0, hz0, hz1, hz2⟩ := info_parts info5
  have hsz : (Tryd.prog.info? 5).map (·.size) = some 1 := by rw [hi0]; simp [hz1]
  have hmk : ∀ w : World, (Instr.makeSlice 23 (.int .i64 256) (.int .i64 256)).run Tryd.prog w = .ok (.slice (some ⟨w.heap.size, 0, none⟩) 256 256) (w.alloc (.cells (madeCells #[.int .u8 0] 256) 5)) := fun w => by
    have := run_make (P := Tryd.prog) w 23 5 i0 (.int .u8 0) Tryd.underlying23 hi0 hz0 .i64 .i64 256 256 (by omega) (by omega) (by rw [hz2]; omega) (by omega)
    rw [hz1] at this
    exact this
  have HN := Lib.hid hn
  have HA := Lib.hid hA
  have HL := Lib.hid hl
  have HT := Lib.hid hT
  obtain ⟨box, hbox⟩ : ∃ box : Array Value, box = #[.int .i64 (kind : Int), .int .u64 (seq : Int), .slice A n c] := ⟨_, rfl⟩
  have HBox := Lib.hid hbox
  have E0' : EncW w box (List.replicate 256 0) ((w.alloc (.cells #[.int .i64 kind, .int .u64 seq, .slice A n c] 31)).alloc (.cells (madeCells #[.int .u8 0] 256) 5)) := by
    have h1 := bk_replicate (w.alloc (.cells #[.int .i64 kind, .int .u64 seq, .slice A n c] 31)) 256
    rw [World.size_alloc] at h1
    rw [hbox]
    exact ⟨h1, (Bk.new w _ _).alloc _, ((Below.refl _ _).alloc (Nat.le_refl _) _).alloc (by simp) _⟩
  have E0 := Lib.hid E0'
  clear hn hA hl hT hbox E0'
  have i1 : ¬ (2048 : Int) ≤ (place : Int) := by omega
  have i2 : ¬ (255 : Int) < (kind : Int) := by omega
  have i3 : ¬ (232 : Int) < (n : Int) := by omega
  have i4 : ¬ (kind : Int) < 0 := by omega
  have i5 : ¬ (place : Int) < 0 := by omega
  have i6 : (kind : Int) % 256 = kind := by omega
  go_enter Tryd.func5, Tryd.ntmps5
  go_wp2_with (refine wpList_copy_str _ rfl _ _ _ _ rfl 5 Tryd.underlying23 hsz (w.heap.size + 1) 0 256 256 rfl _ rfl _ _ E0.out.row (by decide) (by simp [u8s]; decide) ?_; intro w1 hb1 hw1; have Q1 := Lib.hid (enc_mark E0.out hb1 hw1); clear hb1 hw1; have c0 := enc_cell Q1.out 2 (by decide); have c1 := enc_cell Q1.out 3 (by decide); have f0 := Q1.out.row.frozen 2; have f1 := Q1.out.row.frozen 3; have d0 := Q1.out.box.cell 0; have d1 := Q1.out.box.cell 1; have d2 := Q1.out.box.cell 2; rw [HBox.out] at d0 d1 d2)
  have E3' := enc_front kind Q1.out
  clear c0 c1 f0 f1 d0 d1 d2
  generalize (w1.setCell ⟨w.heap.size + 1, 2, none⟩ (.int .u8 (kind : Int))).setCell ⟨w.heap.size + 1, 3, none⟩ (.int .u8 1) = w3 at *
  have E3 := Lib.hid E3'
  clear E3'
  have d2 := E3.out.box.cell 2
  rw [HBox.out] at d2
  go_still_tail 6, (by kernel_rfl)
  clear d2
  change wpList _ _ _ _ _ w3.drew
  have E4' := E3.out.drew
  generalize w3.drew = w4 at *
  have E4 := Lib.hid E4'
  clear E4'
  go_wp2_with fail
  refine (put_any (w.heap.size + 1) 4 252 252 2 n [80, 98, kind, 1] [0, 0] ([0, 0] ++ restN (List.replicate 8 0)) rfl rfl (by omega) (by omega) (by omega) (by omega) (by omega) _ E4.out.row).mono ?_
  rintro e w5 ⟨rfl, r5, b5⟩
  have E5 := Lib.hid ((E4.out.step r5 b5).congr (bs' := ([80, 98, kind, 1] ++ leN n 2) ++ ([0, 0] ++ restN (List.replicate 8 0))) (by simp only [List.append_assoc]))
  clear r5 b5
  go_wp2_with fail
  refine (put_any (w.heap.size + 1) 6 250 250 2 place ([80, 98, kind, 1] ++ leN n 2) [0, 0] (restN (List.replicate 8 0)) (by simp [leN_length]) rfl (by omega) (by omega) (by omega) (by omega) (by omega) _ E5.out.row).mono ?_
  rintro e w6 ⟨rfl, r6, b6⟩
  have E6 := Lib.hid ((E5.out.step r6 b6).congr (bs' := ([80, 98, kind, 1] ++ leN n 2 ++ leN place 2) ++ (List.replicate 8 0 ++ (List.replicate 4 0 ++ (List.replicate 4 0 ++ List.replicate 232 0)))) (by simp only [List.append_assoc, restN]))
  clear r6 b6
  go_wp2_with fail
  have d1 := E6.out.box.cell 1
  rw [HBox.out] at d1
  go_still_tail 4, (by kernel_rfl)
  clear d1
  change wpList _ _ _ _ _ w6.drew
  have E7' := E6.out.drew
  generalize w6.drew = w7 at *
  have E7 := Lib.hid E7'
  clear E7'
  go_wp2_with fail
  refine (put_any (w.heap.size + 1) 8 248 248 8 seq ([80, 98, kind, 1] ++ leN n 2 ++ leN place 2) (List.replicate 8 0) (List.replicate 4 0 ++ (List.replicate 4 0 ++ List.replicate 232 0)) (by simp [leN_length]) rfl (by omega) (by omega) (by omega) (by omega) hs _ E7.out.row).mono ?_
  rintro e w8 ⟨rfl, r8, b8⟩
  obtain ⟨F, hF⟩ : ∃ F : List Nat, F = frontN kind n place seq := ⟨_, rfl⟩
  have hFl : F.length = 16 := by rw [hF]; exact frontN_length _ _ _ _
  have hFlt : ∀ x ∈ F, x < 256 := by rw [hF]; exact frontN_lt _ _ _ _ hk
  have E8 := Lib.hid ((E7.out.step r8 b8).congr (bs' := (F ++ List.replicate 8 0) ++ (List.replicate n 0 ++ List.replicate (232 - n) 0)) (by
    have e8 : (List.replicate 8 0 : List Nat) = List.replicate 4 0 ++ List.replicate 4 0 := rfl
    have e232 : (List.replicate 232 0 : List Nat) = List.replicate n 0 ++ List.replicate (232 - n) 0 := by
      rw [List.replicate_append_replicate, show n + (232 - n) = 232 by omega]
    rw [hF, e8, ← e232]
    simp only [List.append_assoc, frontN]))
  have HF := Lib.hid hF
  have HFl := Lib.hid hFl
  have HFlt := Lib.hid hFlt
  clear r8 b8 hF hFl hFlt
  go_wp2_with fail
  have d2 := E8.out.box.cell 2
  rw [HBox.out] at d2
  go_still_tail 4, (by kernel_rfl)
  clear d2
  change wpList _ _ _ _ _ w8.drew
  have E9' := E8.out.drew
  generalize w8.drew = w9 at *
  have E9 := Lib.hid E9'
  have E9r := Lib.hid (show w9.heap[w.heap.size + 1]? = some (.cells (u8s (F ++ List.replicate 8 0) ++ (u8s (List.replicate n 0) ++ u8s (List.replicate (232 - n) 0))).toArray 5 (0, 0)) by
    have := E9'.row
    unfold Bk at this
    rwa [u8s_append (F ++ List.replicate 8 0), u8s_append (List.replicate n 0)] at this)
  clear E9'
  go_wp2_with (refine wpList_copy_at _ rfl _ _ _ _ rfl 5 Tryd.underlying23 hsz (w.heap.size + 1) 24 232 232 rfl A n c rfl (u8s (F ++ List.replicate 8 0)) (u8s (List.replicate n 0)) (u8s (List.replicate (232 - n) 0)) (u8s l) 5 E9r.out (by rw [u8s_length, List.length_append, HFl.out, List.length_replicate]) (by rw [u8s_length, List.length_replicate]) (by rw [u8s_length]; exact HN.out) (HA.out.bel E9.out.bel) (by omega) (u8s_one _) ?_; intro w10 hb10 hw10; rw [← u8s_append, ← u8s_append] at hb10; have E10 := Lib.hid (E9.out.step hb10 hw10); clear hb10 hw10)
  have hback : List.replicate 4 0 ++ (l ++ List.replicate (232 - n) 0) = backN l := by
    rw [HN.out]; simp only [backN, List.append_assoc]; rfl
  have E11' := E10.out.congr (bs' := F ++ (List.replicate 4 0 ++ backN l)) (by
    rw [← hback, show (List.replicate 8 0 : List Nat) = List.replicate 4 0 ++ List.replicate 4 0 from rfl]
    simp only [List.append_assoc])
  have E12' := E11'.drew
  have E11 := Lib.hid E11'
  have HBk := Lib.hid (show ∀ x ∈ F ++ (List.replicate 4 0 ++ backN l), x < 256 from lt_append HFlt.out (lt_append (by intro x hx; have := (List.mem_replicate.1 hx).2; omega) (backN_lt l HL.out)))
  have HSum := Lib.hid (show 4294967295 - crcGo (F ++ (List.replicate 4 0 ++ backN l)) = sumN (frontN kind l.length place seq ++ [0, 0, 0, 0] ++ backN l) by
    rw [HF.out, HN.out, ← List.append_assoc]; rfl)
  have hsum : 4294967295 - crcGo (F ++ (List.replicate 4 0 ++ backN l)) < 18446744073709551616 := by omega
  have HLen := Lib.hid (show 256 = (F ++ (List.replicate 4 0 ++ backN l)).length by
    simp only [List.length_append, List.length_replicate, HFl.out, backN_length l (by rw [← HN.out]; omega)])
  have hcrc : Calls Tryd.prog 15 #[.slice (some ⟨w.heap.size + 1, 0, none⟩) 256 256] w10.drew fun e w' => e = .returned (.int .u32 ((4294967295 - crcGo (F ++ (List.replicate 4 0 ++ backN l)) : Nat) : Int)) ∧ w' = w10.drew :=
    (crc_any _ 256 256 (F ++ (List.replicate 4 0 ++ backN l)) HLen.out w10.drew E12'.seg (HT.out.below E12'.bel) HBk.out (by omega)).mono fun e w' ⟨h1, h2⟩ => ⟨h1, h2.symm⟩
  clear E11' hback
  have E12 := Lib.hid E12'
  have HCrc := Lib.hid hcrc
  clear E12' hcrc
  go_still_tail 5, (by kernel_rfl)
  change wpStill _ _ w10.drew (fun a' => wpList _ _ _ _ a' w10.drew) _ _
  generalize w10.drew = w11 at *
  generalize 4294967295 - crcGo (F ++ (List.replicate 4 0 ++ backN l)) = SU at *
  still_call HCrc.out
  repeat still_step
  refine wpStill_nil ?_
  go_wp2_with fail
  refine (put_any (w.heap.size + 1) 16 240 240 4 SU F (List.replicate 4 0) (backN l) HFl.out.symm rfl (by omega) (by omega) (by omega) (by omega) hsum _ E12.out.row).mono ?_
  rintro e w13 ⟨rfl, r13, b13⟩
  have E13 := Lib.hid ((E12.out.step r13 b13).congr (bs' := encN kind seq l place) (by rw [HSum.out, HF.out, HN.out, ← List.append_assoc]; rfl))
  clear r13 b13
  go_wp2
  go_ret2
  exact ⟨w.heap.size + 1, rfl, by omega, E13.out.row, E13.out.bel⟩
end Go.Proofs.YtockmpnclajjmaaDoor
