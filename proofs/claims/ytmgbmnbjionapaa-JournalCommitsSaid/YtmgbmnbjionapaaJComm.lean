/- A commit: refused, of no blocks, of some. Conditions: the journal, its disk and the blocks lie in memory; the head is this journal's; nothing waits; the disk is not armed. -/
import Derived.Test.YtmgbmnbjionapaaJArea
import Derived.Test.YtmgbmnbjionapaaJFin
import Derived.Test.YtmgbmnbjionapaaJSeq
namespace Go.Proofs.Ytmgbmnbjionapaa
open Go.RowKit

theorem head_seq (b s cnt seq : Nat) (h : seq < 18446744073709551616) : seq = leGet (((headN b s cnt seq).drop 20).take 8) := by
  have e : (headN b s cnt seq).drop 20 = leN seq 8 ++ ([0, 0, 0, 0] ++ List.replicate 224 0) := by
    unfold headN sectN
    rw [List.append_assoc, List.append_assoc, List.append_assoc, List.append_assoc]
    rfl
  rw [e, List.take_append_of_le_length (by rw [leN_length]; omega), List.take_of_length_le (by rw [leN_length]; omega), leGet_leN]
  exact (Nat.mod_eq_of_lt h).symm
/-- What is wrong with the blocks of a commit. -/
noncomputable def chkN (T b s : Nat) (bs : List BW) : Nat := open Classical in if s < bs.length then 2 else if ∃ x ∈ bs, x.bad T then 1 else if frm bs b s then 4 else 0
theorem check_all (q p b s T : Nat) (S : Nat → Prop) (D : DM) (A : Option Addr) (n c : Nat) (bs : List BW) (w : World) (hJ : Bk w q 101 (JrC p b s)) (hD : Dsk w S p T D) (hn : n = bs.length) (hW : BsAt w A bs) (hf : Fits T b s) :
    Calls Try.prog 57 #[.pointer (some ⟨q, 0, none⟩), .slice A n c] w fun e w' => e = .returned (.int .i64 (chkN T b s bs : Int)) ∧ Below w.heap.size w w' := by
  unfold Fits at hf
  have hT := hD.ok.top
  unfold chkN
  by_cases h1 : s < bs.length
  · rw [if_pos h1]
    refine (jcheck_big q p b s T S D A n c w hJ (by omega)).mono ?_
    rintro e w' ⟨rfl, rfl⟩
    exact ⟨rfl, Below.refl _ _⟩
  · rw [if_neg h1]
    by_cases h2 : ∃ x ∈ bs, x.bad T
    · rw [if_pos h2]
      exact jcheck_arg q p b s T S D A n c bs w hJ hD hn (by omega) hW (by omega) h2
    · rw [if_neg h2]
      refine jcheck_rest q p b s T S D A n c bs w hJ hD hn (by omega) hW (by omega) (by omega) (by omega) hT (fun x hx hb => h2 ⟨x, hx, hb⟩) _ (fun h => ?_) (fun h => ?_)
      · rw [if_pos h]
      · rw [if_neg h]
/-- A block of a commit that is right. -/
def BW.nat (x : BW) : Nat × List Nat := (x.n.toNat, x.l)
theorem chk_zero {T b s : Nat} {bs : List BW} (h : chkN T b s bs = 0) : bs.length ≤ s ∧ (∀ x ∈ bs, ¬ x.bad T) ∧ ¬ frm bs b s := by
  unfold chkN at h
  by_cases h1 : s < bs.length
  · rw [if_pos h1] at h; cases h
  · rw [if_neg h1] at h
    by_cases h2 : ∃ x ∈ bs, x.bad T
    · rw [if_pos h2] at h; cases h
    · rw [if_neg h2] at h
      by_cases h3 : frm bs b s
      · rw [if_pos h3] at h; cases h
      · exact ⟨by omega, fun x hx hb => h2 ⟨x, hx, hb⟩, h3⟩
theorem nat_ok {T : Nat} {bs : List BW} (h : ∀ x ∈ bs, ¬ x.bad T) : ∀ y ∈ bs.map BW.nat, y.1 < T ∧ y.2.length = 256 := by
  intro y hy
  obtain ⟨x, hx, rfl⟩ := List.mem_map.1 hy
  have := h x hx
  unfold BW.bad at this
  exact ⟨by show x.n.toNat < T; omega, by show x.l.length = 256; omega⟩
theorem ws_of {w : World} {S : Nat → Prop} {A : Option Addr} {bs : List BW} {T : Nat} (h : BsAt w A bs) (hok : ∀ x ∈ bs, ¬ x.bad T) (hS : ∀ i, S i → w.heap.size ≤ i) : WsAt w S A (bs.map BW.nat) := by
  refine ⟨fun k hk => ?_⟩
  rw [List.length_map] at hk
  obtain ⟨b, off, Ad, c, hA, hb, c0, c1, hs⟩ := h.at' k hk
  have hx := hok _ (List.getElem_mem hk)
  unfold BW.bad at hx
  rw [List.getElem_map]
  refine ⟨b, off, Ad, c, hA, hb, fun hs => by have := hS _ hs; omega, ?_, ?_, hs, fun a ha => ?_⟩
  · rw [c0]; show _ = some (Value.int .i64 ((bs[k].n.toNat : Nat) : Int)); rw [Int.toNat_of_nonneg (by omega)]
  · rw [c1]; congr 2; omega
  · obtain ⟨b2, off2, hA2, hb2, _⟩ := hs (fun e => by
      have : (u8s (bs[k].l)).length = 0 := by rw [e]; rfl
      rw [u8s_length] at this; omega)
    rw [ha] at hA2
    injection hA2 with hA2
    subst hA2
    exact ⟨fun h => by have := hS _ h; simp only at this; omega, hb2⟩
/-- The disk behind a commit. -/
def cmD (D : DM) (b s seq : Nat) (ws : List (Nat × List Nat)) : DM := (((D.land (areaN b ws)).land [(b, headN b s ws.length (seq + 1))]).land ws).land [(b, headN b s 0 (seq + 1))]
theorem land_rds {D : DM} {T : Nat} (ws : List (Nat × List Nat)) (n : Nat) (hD : D.Ok T) (hw : D.wts = []) (hn : n < T) (hok : ∀ x ∈ ws, x.1 < T ∧ x.2.length = 256) : (D.land ws).rd n = lastD ws n (D.rd n) := by
  rw [rd_still rfl, rd_still hw]
  exact blk_wr T n hn ws D.img hD.len hok
theorem last_out : ∀ (ws : List (Nat × List Nat)) (n : Nat) (old : List Nat), (∀ x ∈ ws, n ≠ x.1) → lastD ws n old = old
  | [], _, _, _ => rfl
  | x :: ws, n, old, h => by
    show lastD ws n (if n = x.1 then x.2 else old) = old
    rw [if_neg (h x (by simp)), last_out ws n old (fun y hy => h y (by simp [hy]))]
theorem last_len : ∀ (ws : List (Nat × List Nat)) (n : Nat) (old : List Nat), (∀ x ∈ ws, x.2.length = 256) → old.length = 256 → (lastD ws n old).length = 256
  | [], _, _, _, h => h
  | x :: ws, n, old, h, ho => by
    show (lastD ws n (if n = x.1 then x.2 else old)).length = 256
    refine last_len ws n _ (fun y hy => h y (by simp [hy])) ?_
    split
    · exact h x (by simp)
    · exact ho
theorem slots_mem : ∀ (i : Nat) (ws : List (Nat × List Nat)) (y : Nat × List Nat), y ∈ slotsN i ws → i ≤ y.1 ∧ y.1 < i + ws.length ∧ ∃ x ∈ ws, y.2 = x.2
  | _, [], _, h => by simp [slotsN] at h
  | i, x :: ws, y, h => by
    rcases List.mem_cons.1 h with rfl | h
    · exact ⟨Nat.le_refl _, by simp, x, by simp, rfl⟩
    · obtain ⟨h1, h2, z, hz, h3⟩ := slots_mem (i + 1) ws y h
      exact ⟨by omega, by simp; omega, z, by simp [hz], h3⟩
theorem area_ok {T b s : Nat} {ws : List (Nat × List Nat)} (hf : Fits T b s) (hl : ws.length ≤ s) (hok : ∀ x ∈ ws, x.1 < T ∧ x.2.length = 256) : ∀ y ∈ areaN b ws, y.1 < T ∧ y.2.length = 256 := by
  unfold Fits at hf
  intro y hy
  rcases List.mem_cons.1 hy with rfl | hy
  · exact ⟨by show b + 1 < T; omega, tgN_length ws _ (Nat.le_refl _) (by omega)⟩
  · obtain ⟨h1, h2, x, hx, h3⟩ := slots_mem _ _ _ hy
    exact ⟨by omega, by rw [h3]; exact (hok x hx).2⟩
theorem area_in {b s : Nat} {ws : List (Nat × List Nat)} (hl : ws.length ≤ s) {i : Nat} (hi : i < b ∨ b + s + 2 ≤ i) : ∀ y ∈ areaN b ws, i ≠ y.1 := by
  intro y hy
  rcases List.mem_cons.1 hy with rfl | hy
  · show i ≠ b + 1; omega
  · obtain ⟨h1, h2, _⟩ := slots_mem _ _ _ hy
    omega
section
variable {D : DM} {T b s seq : Nat} {ws : List (Nat × List Nat)}
theorem cmD_ok (hD : D.Ok T) (hf : Fits T b s) (hl : ws.length ≤ s) (hok : ∀ x ∈ ws, x.1 < T ∧ x.2.length = 256) : (cmD D b s seq ws).Ok T := by
  have hb : b < T := by unfold Fits at hf; omega
  exact (((hD.land _ (area_ok hf hl hok)).land _ (by simp [hb, headN_length])).land _ hok).land _ (by simp [hb, headN_length])
theorem cmD_head (hD : D.Ok T) (hf : Fits T b s) (hl : ws.length ≤ s) (hok : ∀ x ∈ ws, x.1 < T ∧ x.2.length = 256) : (cmD D b s seq ws).rd b = headN b s 0 (seq + 1) := by
  have hb : b < T := by unfold Fits at hf; omega
  unfold cmD
  rw [land_rds _ b (((hD.land _ (area_ok hf hl hok)).land _ (by simp [hb, headN_length])).land _ hok) rfl hb (by simp [hb, headN_length])]
  show (if b = b then _ else _) = _
  rw [if_pos rfl]
theorem cmD_rd (hD : D.Ok T) (hw : D.wts = []) (hf : Fits T b s) (hl : ws.length ≤ s) (hok : ∀ x ∈ ws, x.1 < T ∧ x.2.length = 256) (i : Nat) (hi : i < T) (ho : i < b ∨ b + s + 2 ≤ i) : (cmD D b s seq ws).rd i = lastD ws i (D.rd i) := by
  have hb : b < T := by unfold Fits at hf; omega
  have hib : i ≠ b := by omega
  unfold cmD
  rw [land_rds _ i (((hD.land _ (area_ok hf hl hok)).land _ (by simp [hb, headN_length])).land _ hok) rfl hi (by simp [hb, headN_length]),
    last_out [(b, _)] i _ (by simp [hib]), land_rds _ i ((hD.land _ (area_ok hf hl hok)).land _ (by simp [hb, headN_length])) rfl hi hok,
    land_rds _ i (hD.land _ (area_ok hf hl hok)) rfl hi (by simp [hb, headN_length]), last_out [(b, _)] i _ (by simp [hib]), land_rds _ i hD hw hi (area_ok hf hl hok), last_out _ i _ (area_in hl ho)]
end
set_option maxRecDepth 100000 in
set_option maxHeartbeats 1000000 in
theorem commit_no (q p b s T : Nat) (S : Nat → Prop) (D : DM) (A : Option Addr) (n c : Nat) (bs : List BW) (w : World) (hJ : Bk w q 101 (JrC p b s)) (hD : Dsk w S p T D) (hn : n = bs.length) (hW : BsAt w A bs) (hf : Fits T b s) (h : chkN T b s bs ≠ 0) :
    Calls Try.prog 37 #[.pointer (some ⟨q, 0, none⟩), .slice A n c] w fun e w' => e = .returned (.int .i64 (chkN T b s bs : Int)) ∧ Below w.heap.size w w' := by
  have CC := Lib.hid (check_all q p b s T S D A n c bs w hJ hD hn hW hf)
  have h1 : ((chkN T b s bs : Int) != 0) = true := by rw [bne_iff_ne]; omega
  clear hJ hD hn hW hf h
  generalize chkN T b s bs = r at *
  go_enter Try.func37, Try.ntmps37
  go_wp2_with fail
  refine CC.out.mono ?_
  rintro e w1 ⟨rfl, hb1⟩
  have HB := Lib.hid hb1
  clear hb1
  go_wp2_with fail
  go_ret
  exact ⟨rfl, HB.out⟩
set_option maxRecDepth 100000 in
set_option maxHeartbeats 1000000 in
theorem commit_none (q p b s T : Nat) (S : Nat → Prop) (D : DM) (A : Option Addr) (c : Nat) (w : World) (hJ : Bk w q 101 (JrC p b s)) (hD : Dsk w S p T D) (hf : Fits T b s) :
    Calls Try.prog 37 #[.pointer (some ⟨q, 0, none⟩), .slice A 0 c] w fun e w' => e = .returned (.int .i64 0) ∧ Below w.heap.size w w' := by
  have CC := Lib.hid (check_all q p b s T S D A 0 c [] w hJ hD rfl ⟨fun k hk => by simp at hk⟩ hf)
  have h0 : chkN T b s [] = 0 := by
    unfold chkN
    rw [if_neg (by simp), if_neg (by simp), if_neg]
    rintro ⟨k, hk, _⟩
    simp at hk
  rw [h0] at CC
  clear hJ hD hf
  go_enter Try.func37, Try.ntmps37
  go_wp2_with fail
  refine CC.out.mono ?_
  rintro e w1 ⟨rfl, hb1⟩
  have HB := Lib.hid hb1
  clear hb1
  go_wp2_with fail
  go_ret
  exact ⟨rfl, HB.out⟩
set_option maxRecDepth 100000 in
set_option maxHeartbeats 4000000 in
theorem commit_ok (q p b s T seq : Nat) (S : Nat → Prop) (D : DM) (A : Option Addr) (n c : Nat) (bs : List BW) (w : World) (hJ : Bk w q 101 (JrC p b s)) (hq : ¬ S q) (hD : Dsk w S p T D) (ha : D.arm = false) (hw : D.wts = []) (hn : n = bs.length) (hB : BsAt w A bs) (hW : WsAt w S A (bs.map BW.nat)) (hf : Fits T b s)
    (h : chkN T b s bs = 0) (hn0 : 0 < n) (hrd : D.rd b = headN b s 0 seq) (hseq : seq + 1 < 18446744073709551616) :
    Calls Try.prog 37 #[.pointer (some ⟨q, 0, none⟩), .slice A n c] w fun e w' => e = .returned (.int .i64 0) ∧ ∃ S', Dsk w' S' p T (cmD D b s seq (bs.map BW.nat)) ∧ Kp S S' w w' := by
  obtain ⟨hl, hok, _⟩ := chk_zero h
  have hf' := hf
  unfold Fits at hf'
  have hT := hD.ok.top
  have hbT : b < T := by omega
  have hbl := nat_ok hok
  have CC := Lib.hid (check_all q p b s T S D A n c bs w hJ hD hn hB hf)
  rw [h] at CC
  obtain ⟨ws, hws⟩ : ∃ ws, ws = bs.map BW.nat := ⟨_, rfl⟩
  rw [← hws] at hW hbl ⊢
  have hn' : n = ws.length := by rw [hws, List.length_map]; exact hn
  have hnI : ((n : Int) == 0) = false := by rw [beq_eq_false_iff_ne]; omega
  have CH := Lib.hid (fun (w1 : World) (hb1 : Below w.heap.size w w1) => jhead_parts q p b s T S D w1 (hJ.bel hb1) (hD.bel hb1) hbT hT (by omega) (by rw [hrd]; exact head_lt b s 0 seq (by omega) (by omega)) 0 seq (by rw [hrd]; rfl) (by rw [hrd]; exact head_seq b s 0 seq (by omega)) (.agg #[.int .i64 0, .int .u64 (seq : Int)]) true (fun _ _ => ⟨rfl, rfl⟩) (fun h => absurd ⟨Nat.zero_le _, by rw [hrd]; exact head_take ..⟩ h))
  have hsw : IntKind.u64.wrap ((seq : Int) + 1) = ((seq + 1 : Nat) : Int) := by rw [IntWalk.u64_in _ ⟨by omega, by omega⟩]; omega
  have HJ := Lib.hid hJ
  have HQ := Lib.hid hq
  have HD := Lib.hid hD
  have HA := Lib.hid ha
  have HWT := Lib.hid hw
  have HN := Lib.hid hn'
  have HW := Lib.hid hW
  have HF := Lib.hid hf
  have HF' := Lib.hid hf'
  have HL := Lib.hid (show ws.length ≤ s by rw [← hn', hn]; exact hl)
  have HBL := Lib.hid hbl
  have hn61 : n ≤ 60 := by omega
  have hs60 : s < 256 := by omega
  have hsc : ((seq + 1 : Nat) : Int) = (seq : Int) + 1 := by omega
  clear hJ hq hD ha hw hn' hW hB hf hf' hl hbl hn hok h hrd hws
  go_enter Try.func37, Try.ntmps37
  go_wp2_with fail
  refine CC.out.mono ?_
  rintro e w1 ⟨rfl, hb1⟩
  have HB1 := Lib.hid hb1
  have CH1 := Lib.hid (CH.out w1 hb1)
  clear hb1 CC CH
  go_wp2_with fail
  refine CH1.out.mono ?_
  rintro e w2 ⟨rfl, hb2⟩
  have HB2 := Lib.hid (below_step HB1.out hb2)
  clear hb2 CH1
  obtain ⟨w3, hw3⟩ : ∃ w3, w3 = w2.alloc (.cells #[.int .i64 0, .int .u64 (seq : Int)] 103) := ⟨_, rfl⟩
  have X3 : Bk w3 w2.heap.size 103 #[.int .i64 0, .int .u64 (seq : Int)] := by rw [hw3]; exact Bk.new w2 _ _
  have HB3 := Lib.hid (show Below w.heap.size w w3 by rw [hw3]; exact HB2.out.alloc HB2.out.size _)
  have y1 := X3.cell 1
  simp only [List.getElem?_toArray, List.getElem?_cons_zero, List.getElem?_cons_succ] at y1
  have HW3 := Lib.hid hw3
  clear hw3 X3
  go_upto_region 5 with fail
  rw [← HW3.out]
  have CI := Lib.hid (inarea_any q p b s S A n c ws w3 (HJ.out.bel HB3.out) HN.out hn61 (by omega) (fun i hi => Nat.lt_of_lt_of_le (HD.out.inn i hi) HB3.out.size) (HW.out.bel HB3.out) (fun x hx => by have := (HBL.out x hx).1; omega))
  go_wp2_with fail
  refine CI.out.mono ?_
  rintro e w4 ⟨A', c', rfl, hws4, hb4⟩
  have HB4 := Lib.hid (below_step HB3.out hb4)
  have CL := Lib.hid (land_off q p b s T S D A' (n + 1) c' (areaN b ws) w4 (HJ.out.bel HB4.out) HQ.out (HD.out.bel HB4.out) HA.out HWT.out (by rw [areaN_length, HN.out]) (by omega) hws4 (area_ok HF.out HL.out HBL.out))
  clear hws4 hb4 y1 CI
  go_wp2_with fail
  refine CL.out.mono ?_
  rintro e w5 ⟨rfl, S5, hD5, hK5⟩
  have HK5 := Lib.hid ((Kp.of_bel HB4.out S).trans hK5)
  have hq5 : ¬ S5 q := HK5.out.far HJ.out.lt HQ.out
  have CP := puthead_off q p b s T n (seq + 1) S5 _ w5 (HK5.out.bk HJ.out HQ.out) hq5 hD5 HA.out rfl hs60 (by omega) hbT hT hseq
  rw [hsc] at CP
  have CP := Lib.hid CP
  have HQ5 := Lib.hid hq5
  clear hD5 hK5 CL hq5
  go_wp2_with fail
  refine CP.out.mono ?_
  rintro e w6 ⟨rfl, S6, hD6, hK6⟩
  have HK6 := Lib.hid (HK5.out.trans hK6)
  have hq6 : ¬ S6 q := HK6.out.far HJ.out.lt HQ.out
  have CF := finish_off q p b s T (seq + 1) S6 _ A n c ws w6 (HK6.out.bk HJ.out HQ.out) hq6 hD6 HA.out rfl HN.out (by omega) (HW.out.kp HK6.out) HBL.out hs60 hbT hT hseq
  rw [hsc] at CF
  have CF := Lib.hid CF
  clear hD6 hK6 CP hq6
  go_wp2_with fail
  refine CF.out.mono ?_
  rintro e w7 ⟨rfl, S7, hD7, hK7⟩
  have HD7 := Lib.hid hD7
  have HK7 := Lib.hid (HK6.out.trans hK7)
  clear hD7 hK7 CF
  go_wp2_with fail
  go_ret
  refine ⟨rfl, S7, ?_, HK7.out⟩
  unfold cmD
  rw [← HN.out]
  exact HD7.out
end Go.Proofs.Ytmgbmnbjionapaa
