/- One call of a disk, by its kind. Conditions: the disk lies in memory, and so do the bytes, elsewhere. -/
import Derived.Test.YtmgbmnbjionapaaDiskG
namespace Go.Proofs.Ytmgbmnbjionapaa
open Go.RowKit

/-- A call. -/
structure OpM where
  kind : Int
  block : Int
  data : List Nat
  keep : Nat
  tear : Int
  sectors : Int
/-- What a call does: none: the power goes out. -/
def doR (D : DM) (T : Nat) (o : OpM) : Option (DM × List Nat × Int) :=
  if o.kind = 1 then
    if (0 ≤ o.block ∧ o.block < (T : Int)) ∧ o.data.length = 256 then
      match D.use with
      | none => none
      | some D' => if D'.wts.length < 64 then some (D'.put o.block.toNat o.data, [], 0) else some (D', [], 2)
    else some (D, [], 1)
  else if o.kind = 2 then
    if 0 ≤ o.block ∧ o.block < (T : Int) then some (D, D.rd o.block.toNat, 0) else some (D, [], 1)
  else if o.kind = 3 then
    match D.use with
    | none => none
    | some D' => some (D'.flush, [], 0)
  else if o.kind = 4 then some (D.crash o.keep o.tear o.sectors, [], 0)
  else some (D, [], 1)
/-- A call as a value, its bytes at A. -/
def OpM.cells (o : OpM) (A : Option Addr) (c : Nat) : Array Value := #[.int .i64 o.kind, .int .i64 o.block, .slice A o.data.length c, .int .u64 (o.keep : Int), .int .i64 o.tear, .int .i64 o.sectors]
theorem doR_ok {D D' : DM} {T : Nat} {o : OpM} {r : List Nat} {e : Int} (h : D.Ok T) (hd : doR D T o = some (D', r, e)) : D'.Ok T := by
  unfold doR at hd
  split at hd
  · split at hd
    · rename_i h1 h2
      split at hd
      · cases hd
      · rename_i D2 hu
        split at hd
        · injection hd with hd
          obtain ⟨rfl, rfl, rfl⟩ := Prod.mk.inj hd |>.imp id Prod.mk.inj
          exact (h.use hu).put _ _ (by omega) h2.2 (by assumption)
        · injection hd with hd
          obtain ⟨rfl, rfl, rfl⟩ := Prod.mk.inj hd |>.imp id Prod.mk.inj
          exact h.use hu
    · injection hd with hd
      obtain ⟨rfl, rfl, rfl⟩ := Prod.mk.inj hd |>.imp id Prod.mk.inj
      exact h
  · split at hd
    · split at hd
      all_goals
        injection hd with hd
        obtain ⟨rfl, rfl, rfl⟩ := Prod.mk.inj hd |>.imp id Prod.mk.inj
        exact h
    · split at hd
      · split at hd
        · cases hd
        · rename_i D2 hu
          injection hd with hd
          obtain ⟨rfl, rfl, rfl⟩ := Prod.mk.inj hd |>.imp id Prod.mk.inj
          exact (h.use hu).flush
      · split at hd
        all_goals
          injection hd with hd
          obtain ⟨rfl, rfl, rfl⟩ := Prod.mk.inj hd |>.imp id Prod.mk.inj
        · exact h.crash _ _ _
        · exact h
section
variable {w w' : World} {S : Nat → Prop} {p T : Nat} {D D' : DM}
/-- What a call comes to. -/
def DoPost (w : World) (S : Nat → Prop) (p T : Nat) (D' : DM) (r : List Nat) (en : Int) (e : Ending) (w' : World) : Prop :=
  ∃ S' A' c', e = .returned (.tuple #[.slice A' r.length c', .int .i64 en]) ∧ Dsk w' S' p T D' ∧ Kp S S' w w' ∧ Seg w' A' (u8s r) ∧ (∀ a, A' = some a → w.heap.size ≤ a.block ∧ ¬ S' a.block ∧ a.block < w'.heap.size) ∧ r.length ≤ c'
theorem DoPost.nil {w w' : World} {S S' : Nat → Prop} {p T : Nat} {D' : DM} {en : Int} (h : Dsk w' S' p T D') (hk : Kp S S' w w') : DoPost w S p T D' [] en (.returned (.tuple #[.slice none 0 0, .int .i64 en])) w' :=
  ⟨S', none, 0, rfl, h, hk, Seg.nil _ _, fun a h => (by cases h), Nat.le_refl _⟩
set_option maxRecDepth 100000 in
set_option maxHeartbeats 2000000 in
theorem do_some (h : Dsk w S p T D) (o : OpM) (A : Option Addr) (c : Nat) (hS : Seg w A (u8s o.data)) (hA : o.data ≠ [] → ∀ a, A = some a → ¬ S a.block) (hk : o.keep < 18446744073709551616) (hc : o.data.length ≤ c) (_hcm : c ≤ maxLen) {r : List Nat} {en : Int} (hd : doR D T o = some (D', r, en)) :
    Calls Try.prog 46 #[.pointer (some ⟨p, 0, none⟩), .agg (o.cells A c)] w (DoPost w S p T D' r en) := by
  have hX := Bk.new w 36 (o.cells A c)
  have HD := Lib.hid (h.alloc (.cells (o.cells A c) 36))
  have hK := (Kp.refl S w).alloc (.cells (o.cells A c) 36)
  have hS2 := hS.bel ((Below.refl _ _).alloc (Nat.le_refl _) (.cells (o.cells A c) 36))
  have hsz : (w.alloc (.cells (o.cells A c) 36)).heap.size = w.heap.size + 1 := by simp
  obtain ⟨kind, block, data, keep, tear, sectors⟩ := o
  have x0 := hX.cell 0
  have x1 := hX.cell 1
  have x2 := hX.cell 2
  have x3 := hX.cell 3
  have x4 := hX.cell 4
  have x5 := hX.cell 5
  unfold doR at hd
  simp only at hd hS hS2 hk hc hA
  have HH := Lib.hid h
  have HK := Lib.hid hK
  have HS2 := Lib.hid hS2
  have HA := Lib.hid hA
  have HKP := Lib.hid hk
  have HSZ := Lib.hid hsz
  clear h hK hS2 hA hk hX hS hsz
  simp only [OpM.cells] at *
  by_cases h1 : kind = 1
  · subst h1
    rw [if_pos rfl] at hd
    by_cases hb : (0 ≤ block ∧ block < (T : Int)) ∧ data.length = 256
    · rw [if_pos hb] at hd
      obtain ⟨hb1, hb2⟩ := hb
      cases hu : D.use with
      | none => rw [hu] at hd; cases hd
      | some D2 =>
        rw [hu] at hd
        simp only at hd
        by_cases hf : D2.wts.length < 64
        · rw [if_pos hf] at hd
          injection hd with hd
          obtain ⟨rfl, rfl, rfl⟩ := Prod.mk.inj hd |>.imp id Prod.mk.inj
          have HW := Lib.hid (write_ok HD.out hu block.toNat A c data hb2 HS2.out (HA.out (by intro e; rw [e] at hb2; simp at hb2)) (by omega) hf)
          rw [show ((block.toNat : Nat) : Int) = block by omega, ← hb2] at HW
          clear hd hb1 hb2 hu hf
          go_enter Try.func46, Try.ntmps46
          go_wp2_with fail
          refine HW.out.mono ?_
          rintro e w2 ⟨rfl, S', h1, h2⟩
          have H1 := Lib.hid h1
          have H2 := Lib.hid h2
          clear h1 h2
          go_wp2_with fail
          refine bodyPost_ret (v := .tuple #[.slice none 0 0, .int .i64 0]) (by simp [results, Try.results46, go_sem]) rfl ?_
          exact DoPost.nil H1.out (HK.out.trans H2.out)
        · rw [if_neg hf] at hd
          injection hd with hd
          obtain ⟨rfl, rfl, rfl⟩ := Prod.mk.inj hd |>.imp id Prod.mk.inj
          have HW := Lib.hid (write_full HD.out hu block A c hb1 hf)
          rw [← hb2] at HW
          clear hd hb1 hb2 hu hf
          go_enter Try.func46, Try.ntmps46
          go_wp2_with fail
          refine HW.out.mono ?_
          rintro e w2 ⟨rfl, h1, h2⟩
          have H1 := Lib.hid h1
          have H2 := Lib.hid h2
          clear h1 h2
          go_wp2_with fail
          refine bodyPost_ret (v := .tuple #[.slice none 0 0, .int .i64 2]) (by simp [results, Try.results46, go_sem]) rfl ?_
          exact DoPost.nil H1.out (HK.out.trans H2.out)
    · rw [if_neg hb] at hd
      injection hd with hd
      obtain ⟨rfl, rfl, rfl⟩ := Prod.mk.inj hd |>.imp id Prod.mk.inj
      have HW := Lib.hid (write_bad HD.out block A data.length c (by omega))
      clear hb hd
      go_enter Try.func46, Try.ntmps46
      go_wp2_with fail
      refine HW.out.mono ?_
      rintro e w2 ⟨rfl, rfl⟩
      go_wp2_with fail
      refine bodyPost_ret (v := .tuple #[.slice none 0 0, .int .i64 1]) (by simp [results, Try.results46, go_sem]) rfl ?_
      exact DoPost.nil HD.out HK.out
  · have q1 : (kind == 1) = false := by simpa using h1
    rw [if_neg h1] at hd
    clear h1
    by_cases h2 : kind = 2
    · subst h2
      rw [if_pos rfl] at hd
      by_cases hb : 0 ≤ block ∧ block < (T : Int)
      · rw [if_pos hb] at hd
        injection hd with hd
        obtain ⟨rfl, rfl, rfl⟩ := Prod.mk.inj hd |>.imp id Prod.mk.inj
        have HW := Lib.hid (HD.out.read_ok block.toNat (by omega))
        rw [show ((block.toNat : Nat) : Int) = block by omega] at HW
        have HL := Lib.hid (rd_length HH.out.ok block.toNat (by omega))
        clear hd hb q1
        go_enter Try.func46, Try.ntmps46
        go_wp2_with fail
        refine HW.out.mono ?_
        rintro e w2 ⟨A2, c2, rfl, h1, h2, h3⟩
        have H1 := Lib.hid h1
        have H2 := Lib.hid h2
        have H3 := Lib.hid h3
        clear h1 h2 h3
        go_wp2_with fail
        refine bodyPost_ret (v := .tuple #[.slice A2 256 c2, .int .i64 0]) (by simp [results, Try.results46, go_sem]) rfl ?_
        refine ⟨S, A2, c2, by rw [HL.out], HD.out.bel H3.out, HK.out.trans (Kp.of_bel H3.out S), Seg.of_own H2.out, fun a ha => ?_, by rw [HL.out]; exact H1.out⟩
        have hge := H2.out.lt a.block (by rw [ha]; rfl)
        rw [HSZ.out] at hge
        exact ⟨by omega, fun hs => by have := HH.out.inn _ hs; omega, hge.2⟩
      · rw [if_neg hb] at hd
        injection hd with hd
        obtain ⟨rfl, rfl, rfl⟩ := Prod.mk.inj hd |>.imp id Prod.mk.inj
        have HW := Lib.hid (HD.out.read_no block hb)
        clear hb hd q1
        go_enter Try.func46, Try.ntmps46
        go_wp2_with fail
        refine HW.out.mono ?_
        rintro e w2 ⟨rfl, rfl⟩
        go_wp2_with fail
        refine bodyPost_ret (v := .tuple #[.slice none 0 0, .int .i64 1]) (by simp [results, Try.results46, go_sem]) rfl ?_
        exact DoPost.nil HD.out HK.out
    · have q2 : (kind == 2) = false := by simpa using h2
      rw [if_neg h2] at hd
      clear h2
      by_cases h3 : kind = 3
      · subst h3
        rw [if_pos rfl] at hd
        cases hu : D.use with
        | none => rw [hu] at hd; cases hd
        | some D2 =>
          rw [hu] at hd
          simp only at hd
          injection hd with hd
          obtain ⟨rfl, rfl, rfl⟩ := Prod.mk.inj hd |>.imp id Prod.mk.inj
          have HW := Lib.hid (flush_ok HD.out hu)
          clear hd hu q1 q2
          go_enter Try.func46, Try.ntmps46
          go_wp2_with fail
          refine HW.out.mono ?_
          rintro e w2 ⟨rfl, h1, h2⟩
          have H1 := Lib.hid h1
          have H2 := Lib.hid h2
          clear h1 h2
          go_wp2_with fail
          refine bodyPost_ret (v := .tuple #[.slice none 0 0, .int .i64 0]) (by simp [results, Try.results46, go_sem]) rfl ?_
          exact DoPost.nil H1.out (HK.out.trans H2.out)
      · have q3 : (kind == 3) = false := by simpa using h3
        rw [if_neg h3] at hd
        clear h3
        by_cases h4 : kind = 4
        · subst h4
          rw [if_pos rfl] at hd
          injection hd with hd
          obtain ⟨rfl, rfl, rfl⟩ := Prod.mk.inj hd |>.imp id Prod.mk.inj
          have HW := Lib.hid (crash_any HD.out keep HKP.out tear sectors)
          clear hd q1 q2 q3
          go_enter Try.func46, Try.ntmps46
          go_wp2_with fail
          refine HW.out.mono ?_
          rintro e w2 ⟨rfl, h1, h2⟩
          have H1 := Lib.hid h1
          have H2 := Lib.hid h2
          clear h1 h2
          go_wp2_with fail
          refine bodyPost_ret (v := .tuple #[.slice none 0 0, .int .i64 0]) (by simp [results, Try.results46, go_sem]) rfl ?_
          exact DoPost.nil H1.out (HK.out.trans H2.out)
        · have q4 : (kind == 4) = false := by simpa using h4
          rw [if_neg h4] at hd
          injection hd with hd
          obtain ⟨rfl, rfl, rfl⟩ := Prod.mk.inj hd |>.imp id Prod.mk.inj
          clear h4 hd
          go_enter Try.func46, Try.ntmps46
          go_wp2_with fail
          refine bodyPost_ret (v := .tuple #[.slice none 0 0, .int .i64 1]) (by simp [results, Try.results46, go_sem]) rfl ?_
          exact DoPost.nil HD.out HK.out
set_option maxRecDepth 100000 in
set_option maxHeartbeats 2000000 in
theorem do_none (h : Dsk w S p T D) (o : OpM) (A : Option Addr) (c : Nat) (hc : o.data.length ≤ c) (_hcm : c ≤ maxLen) (hd : doR D T o = none) :
    Calls Try.prog 46 #[.pointer (some ⟨p, 0, none⟩), .agg (o.cells A c)] w fun e w' => e = .panicked [{ v := .iface 97 (.agg #[]), recovered := false }] ∧ Below w.heap.size w w' := by
  have hX := Bk.new w 36 (o.cells A c)
  have HD := Lib.hid (h.alloc (.cells (o.cells A c) 36))
  have HB := Lib.hid ((Below.refl w.heap.size w).alloc (Nat.le_refl _) (.cells (o.cells A c) 36))
  obtain ⟨kind, block, data, keep, tear, sectors⟩ := o
  have x0 := hX.cell 0
  have x1 := hX.cell 1
  have x2 := hX.cell 2
  unfold doR at hd
  simp only at hd hc
  clear h hX
  simp only [OpM.cells] at *
  by_cases h1 : kind = 1
  · subst h1
    rw [if_pos rfl] at hd
    by_cases hb : (0 ≤ block ∧ block < (T : Int)) ∧ data.length = 256
    · rw [if_pos hb] at hd
      obtain ⟨hb1, hb2⟩ := hb
      cases hu : D.use with
      | none =>
        have HW := Lib.hid (write_out HD.out hu block A c hb1)
        rw [← hb2] at HW
        clear hd hb1 hb2 hu
        go_enter Try.func46, Try.ntmps46
        go_wp2_with fail
        refine HW.out.mono ?_
        rintro e w2 ⟨rfl, rfl⟩
        exact ⟨rfl, rfl, HB.out⟩
      | some D2 =>
        rw [hu] at hd
        simp only at hd
        split at hd <;> cases hd
    · rw [if_neg hb] at hd
      cases hd
  · have q1 : (kind == 1) = false := by simpa using h1
    rw [if_neg h1] at hd
    clear h1
    by_cases h2 : kind = 2
    · rw [if_pos h2] at hd
      split at hd <;> cases hd
    · have q2 : (kind == 2) = false := by simpa using h2
      rw [if_neg h2] at hd
      clear h2
      by_cases h3 : kind = 3
      · subst h3
        rw [if_pos rfl] at hd
        cases hu : D.use with
        | none =>
          have HW := Lib.hid (flush_out HD.out hu)
          clear hd hu q1 q2
          go_enter Try.func46, Try.ntmps46
          go_wp2_with fail
          refine HW.out.mono ?_
          rintro e w2 ⟨rfl, rfl⟩
          exact ⟨rfl, rfl, HB.out⟩
        | some D2 =>
          rw [hu] at hd
          cases hd
      · rw [if_neg h3] at hd
        split at hd <;> cases hd
end
end Go.Proofs.Ytmgbmnbjionapaa
