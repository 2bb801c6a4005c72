/- The reader takes a frame of a message in. Conditions: the reader lies in memory; the tables of UTF-8 are laid. -/
import Derived.Test.YtnbhgjionpidnaaDoorSItem
import Derived.Test.YtnbhgjionpidnaaDoorStable
namespace Go.Proofs.YtnbhgjionpidnaaDoor
open Go.RowKit

theorem ItS.setK {gr gi gf : Nat} {w w1 : World} {mk : Bool} {L : Value} {kind : Nat} {text : ByteArray} {f : FrM} {m : Nat → Nat} (s : ItS gr gi gf w w1 mk L kind text f m) (k : Nat) : ItS gr gi gf w (w1.setCell ⟨gr, 2, none⟩ (.int .i64 (k : Nat))) mk L k text f m := by
  have h1 := s.lt
  have h2 := s.gf
  have h3 := s.gi
  exact ⟨s.kq.trans (KQ.set gr 2 w1 _), s.rd.put 2 (.int .i64 (k : Nat)), s.fr.far (p := ⟨gr, 2, none⟩) (by show gf ≠ gr; omega) _, s.it.far (p := ⟨gr, 2, none⟩) (by show gi ≠ gr; omega) _, s.lt, s.gf, s.gi⟩
theorem ItS.setT {gr gi gf : Nat} {w w1 : World} {mk : Bool} {L : Value} {kind : Nat} {text : ByteArray} {f : FrM} {m : Nat → Nat} (s : ItS gr gi gf w w1 mk L kind text f m) (t : ByteArray) : ItS gr gi gf w (w1.setCell ⟨gr, 3, none⟩ (.string t)) mk L kind t f m := by
  have h1 := s.lt
  have h2 := s.gf
  have h3 := s.gi
  exact ⟨s.kq.trans (KQ.set gr 3 w1 _), s.rd.put 3 (.string t), s.fr.far (p := ⟨gr, 3, none⟩) (by show gf ≠ gr; omega) _, s.it.far (p := ⟨gr, 3, none⟩) (by show gi ≠ gr; omega) _, s.lt, s.gf, s.gi⟩
theorem ItS.drew {gr gi gf : Nat} {w w1 : World} {mk : Bool} {L : Value} {kind : Nat} {text : ByteArray} {f : FrM} {m : Nat → Nat} (s : ItS gr gi gf w w1 mk L kind text f m) : ItS gr gi gf w w1.drew mk L kind text f m := s.bel (Below.refl _ _).drew
/-- The tables lie below the reader. -/
def TabG (w : World) (gr : Nat) : Prop := ∃ w00, Tabs w00 ∧ Below w00.heap.size w00 w ∧ w00.heap.size ≤ gr
theorem TabG.tabs {w : World} {gr : Nat} (h : TabG w gr) : Tabs w := by
  obtain ⟨w00, h1, h2, _⟩ := h
  exact h1.bel h2
theorem TabG.kq {w w' : World} {gr : Nat} (h : TabG w gr) (k : KQ gr w w') : TabG w' gr := by
  obtain ⟨w00, h1, h2, h3⟩ := h
  exact ⟨w00, h1, h2.trans (k.bel.mono h3), h3⟩
/-- Each operation's fact, where the message is made. -/
def stF (W : World) (gr kind : Nat) (text : ByteArray) (j : Nat) (v u : Value) (w : World) : Prop := match j with
  | 0 => v = .pointer (some ⟨gr, 0, none⟩)
  | 1 => v = .pointer (some ⟨gr, 0, none⟩)
  | 2 => v = .pointer (some ⟨gr, 2, none⟩)
  | 3 => v = .int .i64 (kind : Nat)
  | 4 => v = .pointer (some ⟨gr, 0, none⟩)
  | 5 => v = .pointer (some ⟨gr, 0, none⟩)
  | 6 => v = .pointer (some ⟨gr, 3, none⟩)
  | 7 => v = .string text
  | 8 => v = .agg #[.int .i64 (kind : Nat), .string text, .int .i64 0]
  | 9 => ∃ g, v = .pointer (some ⟨g, 0, none⟩) ∧ W.heap.size ≤ g ∧ ∃ a b c, Bk w g 56 #[a, b, c]
  | 10 => ∃ g, u = .pointer (some ⟨g, 0, none⟩) ∧ W.heap.size ≤ g ∧ Bk w g 56 #[.int .i64 (kind : Nat), .string text, .int .i64 0]
  | _ => True
theorem stF_bel {W : World} {gr kind : Nat} {text : ByteArray} {w w' : World} (hb : Below w.heap.size w w') : ∀ j u u', stF W gr kind text j u u' w → stF W gr kind text j u u' w' := by
  intro j u u' s
  unfold stF at *
  split at s <;> first | exact s | (obtain ⟨g, h1, h2, a, b, c, h3⟩ := s; exact ⟨g, h1, h2, a, b, c, h3.bel hb⟩) | (obtain ⟨g, h1, h2, h3⟩ := s; exact ⟨g, h1, h2, h3.bel hb⟩)
theorem stF_far {W : World} {gr kind : Nat} {text : ByteArray} {w w' : World} {u u' : Value} : ∀ j, j ≠ 9 → j ≠ 10 → stF W gr kind text j u u' w → stF W gr kind text j u u' w' := by
  intro j h9 h10 s
  unfold stF at *
  split at s <;> first | exact s | exact absurd rfl h9 | exact absurd rfl h10
set_option maxRecDepth 100000 in
set_option maxHeartbeats 2000000 in
theorem item_more0_false (gr : Nat) (mk : Bool) (L : Value) (kind : Nat) (text : ByteArray) (m : Nat → Nat) (w : World) (msk : Bool) (pay : ByteArray) (hz : text.size + pay.size ≤ 100000) (h : Bk w gr 59 (rdC mk L kind text false)) :
    Calls Tryd.prog 43 #[.pointer (some ⟨gr, 0, none⟩), frV ⟨false, 0, msk, pay⟩ m] w (ItemPost gr L w (.ok (none, rdC mk L kind (text ++ pay) false))) := by
  have hI := its_new gr w mk L kind text ⟨false, 0, msk, pay⟩ m h
  obtain ⟨w0, hw0⟩ : ∃ x, x = w.alloc (.cells (frC ⟨false, 0, msk, pay⟩ m) 24) := ⟨_, rfl⟩
  rw [← hw0] at hI
  have hs0 : w0.heap.size = w.heap.size + 1 := by rw [hw0]; simp
  obtain ⟨w1, hw1⟩ : ∃ x, x = w0.alloc (.cells #[.int .i64 0, .string ⟨#[]⟩, .int .i64 0] 56) := ⟨_, rfl⟩
  rw [← hw1] at hI
  obtain ⟨gf, hgf⟩ : ∃ g, g = w.heap.size := ⟨_, rfl⟩
  obtain ⟨gi, hgi⟩ : ∃ g, g = w.heap.size + 1 := ⟨_, rfl⟩
  rw [← hgi, ← hgf] at hI
  have HI := Lib.hid hI
  have HW0 := Lib.hid hw0
  have HW1 := Lib.hid hw1
  have HGF := Lib.hid hgf
  have HGI := Lib.hid (show gi = gf + 1 by rw [hgi, hgf])
  have z1 : w1.cell? ⟨gf, 1, none⟩ = some (.int .i64 0) := hI.fr.cell 1
  have z0 : w1.cell? ⟨gf, 0, none⟩ = some (.bool false) := hI.fr.cell 0
  have z4 : w1.cell? ⟨gf, 7, none⟩ = some (.string pay) := hI.fr.cell 7
  clear hI hw0 hw1 hgf hgi hs0 h
  unfold frV
  dsimp only
  go_enter Tryd.func43, Tryd.ntmps43
  go_upto_region 1 with fail
  rw [show w.alloc (.cells #[.bool false, .int .i64 0, .bool msk, .int .u8 (m 0 : Nat), .int .u8 (m 1 : Nat), .int .u8 (m 2 : Nat), .int .u8 (m 3 : Nat), .string pay] 24) = w0 from HW0.out.symm, ← HW1.out, ← HGF.out, ← HGI.out]
  obtain ⟨T, hTT⟩ : ∃ T, T = text ++ pay := ⟨_, rfl⟩
  have hadd : ∀ w' : World, (Op.stringOp .add text pay).run Tryd.prog w' = .ok (.string T) w' := fun w' => by rw [hTT]; exact run_string_add_sum (P := Tryd.prog) w' _ _ (by omega)
  have HTT := Lib.hid hTT
  have hTz : T.size ≤ 100000 := by rw [hTT, ByteArray.size_append]; exact hz
  clear hTT
  have c2 := HI.out.rd.cell 2
  have c3 : w1.cell? ⟨gr, 3, none⟩ = some (.string text) := HI.out.rd.cell 3
  have q2 := HI.out.rd.frozen 2
  have q3 := HI.out.rd.frozen 3
  have c2 : w1.cell? ⟨gr, 2, none⟩ = some (.int .i64 (kind : Nat)) := c2
  go_wp2_with fail
  go_still_tail 9, (by kernel_rfl)
  change wpList _ _ _ _ _ w1.drew
  go_upto_region 13 with fail
  obtain ⟨w2, hw2⟩ : ∃ x, x = (w1.setCell ⟨gr, 3, none⟩ (.string T)).drew := ⟨_, rfl⟩
  have HI2 := Lib.hid (show ItS gr gi gf w w2 mk L kind T _ m by rw [hw2]; exact (HI.out.setT T).drew)
  rw [← hw2]
  clear hw2 z0 z4 c3 q3
  clear z1 c2 q2
  have hgi := its_it HI2.out
  have z0 : w2.cell? ⟨gf, 0, none⟩ = some (.bool false) := HI2.out.fr.cell 0
  have f0 := HI2.out.it.frozen 0
  have f1 := HI2.out.it.frozen 1
  have f2 := HI2.out.it.frozen 2
  have y0 := HI2.out.it.cell 0
  have y1 := HI2.out.it.cell 1
  have y2 := HI2.out.it.cell 2
  have HGI2 := Lib.hid hgi
  clear hgi
  go_wp2_with fail
  have FB := box3 HI2.out.it (.int .i64 0) (.string ⟨#[]⟩) (.int .i64 0)
  have r0 := FB.cell 0
  have r1 := FB.cell 1
  have r2 := FB.cell 2
  have hne : ¬ gr = gi := Nat.ne_of_lt HGI2.out.1
  exact bodyPost_ret (v := .tuple #[itV ⟨0, ⟨#[]⟩, 0⟩, .bool false]) (by simp [results, Tryd.results43, go_sem, r0, r1, r2, itV]) rfl
    ⟨kq3 HI2.out.kq HGI2.out.2 HGI2.out.1 _ _ _, rfl, by rw [← HTT.out]; exact ((HI2.out.rd.far (p := ⟨gi, 0, none⟩) hne _).far (p := ⟨gi, 1, none⟩) hne _).far (p := ⟨gi, 2, none⟩) hne _⟩
set_option maxRecDepth 100000 in
set_option maxHeartbeats 2000000 in
theorem item_more1_false (gr : Nat) (mk : Bool) (L : Value) (kind : Nat) (text : ByteArray) (m : Nat → Nat) (w : World) (msk : Bool) (pay : ByteArray) (hz : text.size + pay.size ≤ 100000) (h : Bk w gr 59 (rdC mk L kind text false)) :
    Calls Tryd.prog 43 #[.pointer (some ⟨gr, 0, none⟩), frV ⟨false, 1, msk, pay⟩ m] w (ItemPost gr L w (.ok (none, rdC mk L 1 (text ++ pay) false))) := by
  have hI := its_new gr w mk L kind text ⟨false, 1, msk, pay⟩ m h
  obtain ⟨w0, hw0⟩ : ∃ x, x = w.alloc (.cells (frC ⟨false, 1, msk, pay⟩ m) 24) := ⟨_, rfl⟩
  rw [← hw0] at hI
  have hs0 : w0.heap.size = w.heap.size + 1 := by rw [hw0]; simp
  obtain ⟨w1, hw1⟩ : ∃ x, x = w0.alloc (.cells #[.int .i64 0, .string ⟨#[]⟩, .int .i64 0] 56) := ⟨_, rfl⟩
  rw [← hw1] at hI
  obtain ⟨gf, hgf⟩ : ∃ g, g = w.heap.size := ⟨_, rfl⟩
  obtain ⟨gi, hgi⟩ : ∃ g, g = w.heap.size + 1 := ⟨_, rfl⟩
  rw [← hgi, ← hgf] at hI
  have HI := Lib.hid hI
  have HW0 := Lib.hid hw0
  have HW1 := Lib.hid hw1
  have HGF := Lib.hid hgf
  have HGI := Lib.hid (show gi = gf + 1 by rw [hgi, hgf])
  have z1 : w1.cell? ⟨gf, 1, none⟩ = some (.int .i64 1) := hI.fr.cell 1
  have z0 : w1.cell? ⟨gf, 0, none⟩ = some (.bool false) := hI.fr.cell 0
  have z4 : w1.cell? ⟨gf, 7, none⟩ = some (.string pay) := hI.fr.cell 7
  clear hI hw0 hw1 hgf hgi hs0 h
  unfold frV
  dsimp only
  go_enter Tryd.func43, Tryd.ntmps43
  go_upto_region 1 with fail
  rw [show w.alloc (.cells #[.bool false, .int .i64 1, .bool msk, .int .u8 (m 0 : Nat), .int .u8 (m 1 : Nat), .int .u8 (m 2 : Nat), .int .u8 (m 3 : Nat), .string pay] 24) = w0 from HW0.out.symm, ← HW1.out, ← HGF.out, ← HGI.out]
  obtain ⟨T, hTT⟩ : ∃ T, T = text ++ pay := ⟨_, rfl⟩
  have hadd : ∀ w' : World, (Op.stringOp .add text pay).run Tryd.prog w' = .ok (.string T) w' := fun w' => by rw [hTT]; exact run_string_add_sum (P := Tryd.prog) w' _ _ (by omega)
  have HTT := Lib.hid hTT
  have hTz : T.size ≤ 100000 := by rw [hTT, ByteArray.size_append]; exact hz
  clear hTT
  have c2 := HI.out.rd.cell 2
  have c3 : w1.cell? ⟨gr, 3, none⟩ = some (.string text) := HI.out.rd.cell 3
  have q2 := HI.out.rd.frozen 2
  have q3 := HI.out.rd.frozen 3
  have c2 : w1.cell? ⟨gr, 2, none⟩ = some (.int .i64 (kind : Nat)) := c2
  go_upto_region 12 with fail
  obtain ⟨wk, hwk⟩ : ∃ x, x = w1.setCell ⟨gr, 2, none⟩ (.int .i64 1) := ⟨_, rfl⟩
  have HIK := Lib.hid (show ItS gr gi gf w wk mk L 1 text _ m by rw [hwk]; exact HI.out.setK 1)
  rw [← hwk]
  clear hwk z0 z1 z4 c2 c3 q2 q3
  have z0 : wk.cell? ⟨gf, 0, none⟩ = some (.bool false) := HIK.out.fr.cell 0
  have z4 : wk.cell? ⟨gf, 7, none⟩ = some (.string pay) := HIK.out.fr.cell 7
  have c3 : wk.cell? ⟨gr, 3, none⟩ = some (.string text) := HIK.out.rd.cell 3
  have q3 := HIK.out.rd.frozen 3
  go_wp2_with fail
  go_still_tail 9, (by kernel_rfl)
  change wpList _ _ _ _ _ wk.drew
  go_upto_region 13 with fail
  obtain ⟨w2, hw2⟩ : ∃ x, x = (wk.setCell ⟨gr, 3, none⟩ (.string T)).drew := ⟨_, rfl⟩
  have HI2 := Lib.hid (show ItS gr gi gf w w2 mk L 1 T _ m by rw [hw2]; exact (HIK.out.setT T).drew)
  rw [← hw2]
  clear hw2 z0 z4 c3 q3
  have hgi := its_it HI2.out
  have z0 : w2.cell? ⟨gf, 0, none⟩ = some (.bool false) := HI2.out.fr.cell 0
  have f0 := HI2.out.it.frozen 0
  have f1 := HI2.out.it.frozen 1
  have f2 := HI2.out.it.frozen 2
  have y0 := HI2.out.it.cell 0
  have y1 := HI2.out.it.cell 1
  have y2 := HI2.out.it.cell 2
  have HGI2 := Lib.hid hgi
  clear hgi
  go_wp2_with fail
  have FB := box3 HI2.out.it (.int .i64 0) (.string ⟨#[]⟩) (.int .i64 0)
  have r0 := FB.cell 0
  have r1 := FB.cell 1
  have r2 := FB.cell 2
  have hne : ¬ gr = gi := Nat.ne_of_lt HGI2.out.1
  exact bodyPost_ret (v := .tuple #[itV ⟨0, ⟨#[]⟩, 0⟩, .bool false]) (by simp [results, Tryd.results43, go_sem, r0, r1, r2, itV]) rfl
    ⟨kq3 HI2.out.kq HGI2.out.2 HGI2.out.1 _ _ _, rfl, by rw [← HTT.out]; exact ((HI2.out.rd.far (p := ⟨gi, 0, none⟩) hne _).far (p := ⟨gi, 1, none⟩) hne _).far (p := ⟨gi, 2, none⟩) hne _⟩
set_option maxRecDepth 100000 in
set_option maxHeartbeats 2000000 in
theorem item_more2_false (gr : Nat) (mk : Bool) (L : Value) (kind : Nat) (text : ByteArray) (m : Nat → Nat) (w : World) (msk : Bool) (pay : ByteArray) (hz : text.size + pay.size ≤ 100000) (h : Bk w gr 59 (rdC mk L kind text false)) :
    Calls Tryd.prog 43 #[.pointer (some ⟨gr, 0, none⟩), frV ⟨false, 2, msk, pay⟩ m] w (ItemPost gr L w (.ok (none, rdC mk L 2 (text ++ pay) false))) := by
  have hI := its_new gr w mk L kind text ⟨false, 2, msk, pay⟩ m h
  obtain ⟨w0, hw0⟩ : ∃ x, x = w.alloc (.cells (frC ⟨false, 2, msk, pay⟩ m) 24) := ⟨_, rfl⟩
  rw [← hw0] at hI
  have hs0 : w0.heap.size = w.heap.size + 1 := by rw [hw0]; simp
  obtain ⟨w1, hw1⟩ : ∃ x, x = w0.alloc (.cells #[.int .i64 0, .string ⟨#[]⟩, .int .i64 0] 56) := ⟨_, rfl⟩
  rw [← hw1] at hI
  obtain ⟨gf, hgf⟩ : ∃ g, g = w.heap.size := ⟨_, rfl⟩
  obtain ⟨gi, hgi⟩ : ∃ g, g = w.heap.size + 1 := ⟨_, rfl⟩
  rw [← hgi, ← hgf] at hI
  have HI := Lib.hid hI
  have HW0 := Lib.hid hw0
  have HW1 := Lib.hid hw1
  have HGF := Lib.hid hgf
  have HGI := Lib.hid (show gi = gf + 1 by rw [hgi, hgf])
  have z1 : w1.cell? ⟨gf, 1, none⟩ = some (.int .i64 2) := hI.fr.cell 1
  have z0 : w1.cell? ⟨gf, 0, none⟩ = some (.bool false) := hI.fr.cell 0
  have z4 : w1.cell? ⟨gf, 7, none⟩ = some (.string pay) := hI.fr.cell 7
  clear hI hw0 hw1 hgf hgi hs0 h
  unfold frV
  dsimp only
  go_enter Tryd.func43, Tryd.ntmps43
  go_upto_region 1 with fail
  rw [show w.alloc (.cells #[.bool false, .int .i64 2, .bool msk, .int .u8 (m 0 : Nat), .int .u8 (m 1 : Nat), .int .u8 (m 2 : Nat), .int .u8 (m 3 : Nat), .string pay] 24) = w0 from HW0.out.symm, ← HW1.out, ← HGF.out, ← HGI.out]
  obtain ⟨T, hTT⟩ : ∃ T, T = text ++ pay := ⟨_, rfl⟩
  have hadd : ∀ w' : World, (Op.stringOp .add text pay).run Tryd.prog w' = .ok (.string T) w' := fun w' => by rw [hTT]; exact run_string_add_sum (P := Tryd.prog) w' _ _ (by omega)
  have HTT := Lib.hid hTT
  have hTz : T.size ≤ 100000 := by rw [hTT, ByteArray.size_append]; exact hz
  clear hTT
  have c2 := HI.out.rd.cell 2
  have c3 : w1.cell? ⟨gr, 3, none⟩ = some (.string text) := HI.out.rd.cell 3
  have q2 := HI.out.rd.frozen 2
  have q3 := HI.out.rd.frozen 3
  have c2 : w1.cell? ⟨gr, 2, none⟩ = some (.int .i64 (kind : Nat)) := c2
  go_upto_region 12 with fail
  obtain ⟨wk, hwk⟩ : ∃ x, x = w1.setCell ⟨gr, 2, none⟩ (.int .i64 2) := ⟨_, rfl⟩
  have HIK := Lib.hid (show ItS gr gi gf w wk mk L 2 text _ m by rw [hwk]; exact HI.out.setK 2)
  rw [← hwk]
  clear hwk z0 z1 z4 c2 c3 q2 q3
  have z0 : wk.cell? ⟨gf, 0, none⟩ = some (.bool false) := HIK.out.fr.cell 0
  have z4 : wk.cell? ⟨gf, 7, none⟩ = some (.string pay) := HIK.out.fr.cell 7
  have c3 : wk.cell? ⟨gr, 3, none⟩ = some (.string text) := HIK.out.rd.cell 3
  have q3 := HIK.out.rd.frozen 3
  go_wp2_with fail
  go_still_tail 9, (by kernel_rfl)
  change wpList _ _ _ _ _ wk.drew
  go_upto_region 13 with fail
  obtain ⟨w2, hw2⟩ : ∃ x, x = (wk.setCell ⟨gr, 3, none⟩ (.string T)).drew := ⟨_, rfl⟩
  have HI2 := Lib.hid (show ItS gr gi gf w w2 mk L 2 T _ m by rw [hw2]; exact (HIK.out.setT T).drew)
  rw [← hw2]
  clear hw2 z0 z4 c3 q3
  have hgi := its_it HI2.out
  have z0 : w2.cell? ⟨gf, 0, none⟩ = some (.bool false) := HI2.out.fr.cell 0
  have f0 := HI2.out.it.frozen 0
  have f1 := HI2.out.it.frozen 1
  have f2 := HI2.out.it.frozen 2
  have y0 := HI2.out.it.cell 0
  have y1 := HI2.out.it.cell 1
  have y2 := HI2.out.it.cell 2
  have HGI2 := Lib.hid hgi
  clear hgi
  go_wp2_with fail
  have FB := box3 HI2.out.it (.int .i64 0) (.string ⟨#[]⟩) (.int .i64 0)
  have r0 := FB.cell 0
  have r1 := FB.cell 1
  have r2 := FB.cell 2
  have hne : ¬ gr = gi := Nat.ne_of_lt HGI2.out.1
  exact bodyPost_ret (v := .tuple #[itV ⟨0, ⟨#[]⟩, 0⟩, .bool false]) (by simp [results, Tryd.results43, go_sem, r0, r1, r2, itV]) rfl
    ⟨kq3 HI2.out.kq HGI2.out.2 HGI2.out.1 _ _ _, rfl, by rw [← HTT.out]; exact ((HI2.out.rd.far (p := ⟨gi, 0, none⟩) hne _).far (p := ⟨gi, 1, none⟩) hne _).far (p := ⟨gi, 2, none⟩) hne _⟩
set_option maxRecDepth 100000 in
set_option maxHeartbeats 2000000 in
theorem item_more0_true (gr : Nat) (mk : Bool) (L : Value) (kind : Nat) (text : ByteArray) (m : Nat → Nat) (w : World) (msk : Bool) (pay : ByteArray) (hz : text.size + pay.size ≤ 100000) (hk2 : kind ≤ 2) (hT : TabG w gr) (h : Bk w gr 59 (rdC mk L kind text false)) :
    Calls Tryd.prog 43 #[.pointer (some ⟨gr, 0, none⟩), frV ⟨true, 0, msk, pay⟩ m] w (ItemPost gr L w (if kind = 1 ∧ Lib.validD (text ++ pay).data.toList = false then .error 1007 else .ok (some ⟨kind, text ++ pay, 0⟩, rdC mk L 0 ⟨#[]⟩ false))) := by
  have HT := Lib.hid hT
  clear hT
  obtain ⟨R, hR⟩ : ∃ R : Except Nat (Option ItM × Array Value), R = (if kind = 1 ∧ Lib.validD (text ++ pay).data.toList = false then .error 1007 else .ok (some ⟨kind, text ++ pay, 0⟩, rdC mk L 0 ⟨#[]⟩ false)) := ⟨_, rfl⟩
  have HRR := Lib.hid hR
  rw [← hR]
  clear hR
  have hI := its_new gr w mk L kind text ⟨true, 0, msk, pay⟩ m h
  obtain ⟨w0, hw0⟩ : ∃ x, x = w.alloc (.cells (frC ⟨true, 0, msk, pay⟩ m) 24) := ⟨_, rfl⟩
  rw [← hw0] at hI
  have hs0 : w0.heap.size = w.heap.size + 1 := by rw [hw0]; simp
  obtain ⟨w1, hw1⟩ : ∃ x, x = w0.alloc (.cells #[.int .i64 0, .string ⟨#[]⟩, .int .i64 0] 56) := ⟨_, rfl⟩
  rw [← hw1] at hI
  obtain ⟨gf, hgf⟩ : ∃ g, g = w.heap.size := ⟨_, rfl⟩
  obtain ⟨gi, hgi⟩ : ∃ g, g = w.heap.size + 1 := ⟨_, rfl⟩
  rw [← hgi, ← hgf] at hI
  have HI := Lib.hid hI
  have HW0 := Lib.hid hw0
  have HW1 := Lib.hid hw1
  have HGF := Lib.hid hgf
  have HGI := Lib.hid (show gi = gf + 1 by rw [hgi, hgf])
  have z1 : w1.cell? ⟨gf, 1, none⟩ = some (.int .i64 0) := hI.fr.cell 1
  have z0 : w1.cell? ⟨gf, 0, none⟩ = some (.bool true) := hI.fr.cell 0
  have z4 : w1.cell? ⟨gf, 7, none⟩ = some (.string pay) := hI.fr.cell 7
  clear hI hw0 hw1 hgf hgi hs0 h
  unfold frV
  dsimp only
  go_enter Tryd.func43, Tryd.ntmps43
  go_upto_region 1 with fail
  rw [show w.alloc (.cells #[.bool true, .int .i64 0, .bool msk, .int .u8 (m 0 : Nat), .int .u8 (m 1 : Nat), .int .u8 (m 2 : Nat), .int .u8 (m 3 : Nat), .string pay] 24) = w0 from HW0.out.symm, ← HW1.out, ← HGF.out, ← HGI.out]
  obtain ⟨T, hTT⟩ : ∃ T, T = text ++ pay := ⟨_, rfl⟩
  have hadd : ∀ w' : World, (Op.stringOp .add text pay).run Tryd.prog w' = .ok (.string T) w' := fun w' => by rw [hTT]; exact run_string_add_sum (P := Tryd.prog) w' _ _ (by omega)
  have HTT := Lib.hid hTT
  have hTz : T.size ≤ 100000 := by rw [hTT, ByteArray.size_append]; exact hz
  clear hTT
  have c2 := HI.out.rd.cell 2
  have c3 : w1.cell? ⟨gr, 3, none⟩ = some (.string text) := HI.out.rd.cell 3
  have q2 := HI.out.rd.frozen 2
  have q3 := HI.out.rd.frozen 3
  have c2 : w1.cell? ⟨gr, 2, none⟩ = some (.int .i64 (kind : Nat)) := c2
  go_wp2_with fail
  go_still_tail 9, (by kernel_rfl)
  change wpList _ _ _ _ _ w1.drew
  go_upto_region 13 with fail
  obtain ⟨w2, hw2⟩ : ∃ x, x = (w1.setCell ⟨gr, 3, none⟩ (.string T)).drew := ⟨_, rfl⟩
  have HI2 := Lib.hid (show ItS gr gi gf w w2 mk L kind T _ m by rw [hw2]; exact (HI.out.setT T).drew)
  rw [← hw2]
  clear hw2 z0 z4 c3 q3
  clear z1 c2 q2
  have hgi := its_it HI2.out
  have z0 : w2.cell? ⟨gf, 0, none⟩ = some (.bool true) := HI2.out.fr.cell 0
  have HRW := Lib.hid HI2.out.rd
  have HGI2 := Lib.hid hgi
  clear hgi
  go_wp2_with fail
  refine wp_region_list [some 47, some 48, some 49, some 50, some 51, some 52, some 53, some 54, some 55, some 7, none] (fun j => bif j == 10 then 7 else 0) (stF w2 gr kind T) (fun w1 => Below w2.heap.size w2 w1) (by kernel_rfl) (Below.refl _ _).drew rfl (by kernel_rfl) (by kernel_rfl) (by kernel_rfl) (by kernel_rfl) (fun U hU => ?_)
  simp only [List.filterMap_cons, List.filterMap_nil, id, putsS, Act.put, List.setIfInBounds_toArray, List.set_cons_zero, List.set_cons_succ] at hU
  subst hU
  refine ⟨⟨?_, ?_, ?_, ?_, ?_, ?_, ?_, ?_, ?_, ?_, ?_, trivial⟩, ?_⟩
  · -- 0: Op.move t0
    refine StepL.act ?_
    intro f w1 hG hF K hK
    clear hF
    dsimp only at hK ⊢
    go_simp
    exact hK.out _ _ hG rfl (fun _ _ _ _ h => h)
  · -- 1: Op.nilCheck t47
    refine StepL.act ?_
    intro f w1 hG hF K hK
    have d0 : (stF w2 gr kind T) 0 (f 47) (f 0) w1 := hF 0 (by kernel_rfl)
    clear hF
    dsimp only at hK ⊢
    generalize f 47 = v47 at *
    subst d0
    go_simp
    exact hK.out _ _ hG rfl (fun _ _ _ _ h => h)
  · -- 2: Op.fieldAddr 59 t48 2
    refine StepL.act ?_
    intro f w1 hG hF K hK
    have d1 : (stF w2 gr kind T) 1 (f 48) (f 0) w1 := hF 1 (by kernel_rfl)
    clear hF
    dsimp only at hK ⊢
    generalize f 48 = v48 at *
    subst d1
    go_simp
    exact hK.out _ _ hG rfl (fun _ _ _ _ h => h)
  · -- 3: Op.load 3 t49
    refine StepL.act ?_
    intro f w1 hG hF K hK
    have d2 : (stF w2 gr kind T) 2 (f 49) (f 0) w1 := hF 2 (by kernel_rfl)
    clear hF
    dsimp only at hK ⊢
    generalize f 49 = v49 at *
    subst d2
    have y : w1.cell? ⟨gr, 2, none⟩ = some (.int .i64 (kind : Nat)) := (HRW.out.bel hG).cell 2
    go_simp
    exact hK.out _ _ hG rfl (fun _ _ _ _ h => h)
  · -- 4: Op.move t0
    refine StepL.act ?_
    intro f w1 hG hF K hK
    clear hF
    dsimp only at hK ⊢
    go_simp
    exact hK.out _ _ hG rfl (fun _ _ _ _ h => h)
  · -- 5: Op.nilCheck t51
    refine StepL.act ?_
    intro f w1 hG hF K hK
    have d4 : (stF w2 gr kind T) 4 (f 51) (f 0) w1 := hF 4 (by kernel_rfl)
    clear hF
    dsimp only at hK ⊢
    generalize f 51 = v51 at *
    subst d4
    go_simp
    exact hK.out _ _ hG rfl (fun _ _ _ _ h => h)
  · -- 6: Op.fieldAddr 59 t52 3
    refine StepL.act ?_
    intro f w1 hG hF K hK
    have d5 : (stF w2 gr kind T) 5 (f 52) (f 0) w1 := hF 5 (by kernel_rfl)
    clear hF
    dsimp only at hK ⊢
    generalize f 52 = v52 at *
    subst d5
    go_simp
    exact hK.out _ _ hG rfl (fun _ _ _ _ h => h)
  · -- 7: Op.load 9 t53
    refine StepL.act ?_
    intro f w1 hG hF K hK
    have d6 : (stF w2 gr kind T) 6 (f 53) (f 0) w1 := hF 6 (by kernel_rfl)
    clear hF
    dsimp only at hK ⊢
    generalize f 53 = v53 at *
    subst d6
    have y : w1.cell? ⟨gr, 3, none⟩ = some (.string T) := (HRW.out.bel hG).cell 3
    go_simp
    exact hK.out _ _ hG rfl (fun _ _ _ _ h => h)
  · -- 8: Op.build 56 #[(0, t50), (1, t54)]
    refine StepL.act ?_
    intro f w1 hG hF K hK
    have d3 : (stF w2 gr kind T) 3 (f 50) (f 0) w1 := hF 3 (by kernel_rfl)
    have d7 : (stF w2 gr kind T) 7 (f 54) (f 0) w1 := hF 7 (by kernel_rfl)
    clear hF
    dsimp only at hK ⊢
    generalize f 50 = v50 at *
    generalize f 54 = v54 at *
    subst d3
    subst d7
    go_simp
    exact hK.out _ _ hG rfl (fun _ _ _ _ h => h)
  · -- 9: Op.alloc 56
    refine StepL.act ?_
    intro f w1 hG hF K hK
    clear hF
    dsimp only at hK ⊢
    go_simp
    exact hK.out _ _ (hG.alloc hG.size _) ⟨w1.heap.size, rfl, hG.size, _, _, _, Bk.new w1 _ _⟩ (fun j _ _ _ h => stF_bel ((Below.refl _ _).alloc (Nat.le_refl _) _) j _ _ h)
  · -- 10: Op.store 56 t7 t55
    intro f w1 hG hF K hK
    have d9 : (stF w2 gr kind T) 9 (f 7) (f 0) w1 := hF 9 (by kernel_rfl)
    have d8 : (stF w2 gr kind T) 8 (f 55) (f 0) w1 := hF 8 (by kernel_rfl)
    clear hF
    dsimp only at hK ⊢
    generalize hf7 : f 7 = v7 at *
    generalize hf55 : f 55 = v55 at *
    obtain ⟨g9, rfl, hg9, b0, b1, b2, hb9⟩ := d9
    subst d8
    have y0 := hb9.cell 0
    have y1 := hb9.cell 1
    have y2 := hb9.cell 2
    have f0 := hb9.frozen 0
    have f1 := hb9.frozen 1
    have f2 := hb9.frozen 2
    go_simp
    exact hK.out undef _ (below3 hG hg9 _ _ _) ⟨g9, hf7, hg9, box3 hb9 _ _ _⟩ (fun j h1 _ h => by
      by_cases h9 : j = 9
      · subst h9
        exact ⟨g9, hf7, hg9, _, _, _, box3 hb9 _ _ _⟩
      · exact stF_far j h9 h1 h)
  intro f w3 hG hF
  have R9 : ∃ g, f 7 = .pointer (some ⟨g, 0, none⟩) ∧ w2.heap.size ≤ g ∧ Bk w3 g 56 #[.int .i64 (kind : Nat), .string T, .int .i64 0] := hF 10 (by decide)
  obtain ⟨g9, e9, hg9, hb9⟩ := R9
  have HI3 := Lib.hid (HI2.out.bel hG)
  clear hF hG
  dsimp only
  generalize f 47 = v47
  generalize f 48 = v48
  generalize f 49 = v49
  generalize f 50 = v50
  generalize f 51 = v51
  generalize f 52 = v52
  generalize f 53 = v53
  generalize f 54 = v54
  generalize f 55 = v55
  generalize f 7 = v7 at *
  subst e9
  have hlt9 : gr < g9 := Nat.lt_of_lt_of_le HI2.out.rd.lt hg9
  have c2 := HI3.out.rd.cell 2
  have q2 := HI3.out.rd.frozen 2
  have c3 := HI3.out.rd.cell 3
  have q3 := HI3.out.rd.frozen 3
  have c2' : w3.cell? ⟨gr, 2, none⟩ = some (.int .i64 (kind : Nat)) := c2
  have c3' : w3.cell? ⟨gr, 3, none⟩ = some (.string T) := c3
  clear c2 c3
  obtain ⟨w4, hw4⟩ : ∃ x, x = (w3.setCell ⟨gr, 2, none⟩ (.int .i64 0)).setCell ⟨gr, 3, none⟩ (.string ⟨#[]⟩) := ⟨_, rfl⟩
  have HI4 := Lib.hid (show ItS gr gi gf w w4 mk L 0 ⟨#[]⟩ _ m by rw [hw4]; exact (HI3.out.setK 0).setT ⟨#[]⟩)
  have HB4 := Lib.hid (show Bk w4 g9 56 #[.int .i64 (kind : Nat), .string T, .int .i64 0] by
    rw [hw4]
    exact (hb9.far (p := ⟨gr, 2, none⟩) (Ne.symm (Nat.ne_of_lt hlt9)) _).far (p := ⟨gr, 3, none⟩) (Ne.symm (Nat.ne_of_lt hlt9)) _)
  have HW4 := Lib.hid hw4
  have HL9 := Lib.hid hlt9
  clear hb9 hg9 hw4 hlt9
  go_upto_region 17 with fail
  rw [← HW4.out]
  clear c2' c3' q2 q3 HW4 HI3 HI2 HRW HI z0
  have x0 : w4.cell? ⟨g9, 0, none⟩ = some (.int .i64 (kind : Nat)) := HB4.out.cell 0
  by_cases hk1 : kind = 1
  · subst hk1
    have HTG := Lib.hid (HT.out.kq HI4.out.kq)
    have x1 : w4.cell? ⟨g9, 1, none⟩ = some (.string T) := HB4.out.cell 1
    go_wp2_with fail
    refine (needText_any T (by omega) w4 HTG.out.tabs).mono ?_
    rintro e w5 ⟨b5, he⟩
    have HI5 := Lib.hid (HI4.out.bel b5)
    have HB5 := Lib.hid (HB4.out.bel b5)
    clear b5 x0 x1
    by_cases hv : Lib.validD T.data.toList = true
    · rw [if_pos hv] at he
      subst he
      have HRV := Lib.hid (show R = .ok (some ⟨1, T, 0⟩, rdC mk L 0 ⟨#[]⟩ false) by rw [HRR.out, ← HTT.out, if_neg (by rw [hv]; simp)])
      clear hv
      have x0 : w5.cell? ⟨g9, 0, none⟩ = some (.int .i64 (1 : Nat)) := HB5.out.cell 0
      have x1 : w5.cell? ⟨g9, 1, none⟩ = some (.string T) := HB5.out.cell 1
      have x2 : w5.cell? ⟨g9, 2, none⟩ = some (.int .i64 0) := HB5.out.cell 2
      have f0 := HI5.out.it.frozen 0
      have f1 := HI5.out.it.frozen 1
      have f2 := HI5.out.it.frozen 2
      have y0 := HI5.out.it.cell 0
      have y1 := HI5.out.it.cell 1
      have y2 := HI5.out.it.cell 2
      go_wp2_with fail
      have FB := box3 HI5.out.it (.int .i64 1) (.string T) (.int .i64 0)
      have r0 := FB.cell 0
      have r1 := FB.cell 1
      have r2 := FB.cell 2
      have hne : ¬ gr = gi := Nat.ne_of_lt HGI2.out.1
      exact bodyPost_ret (v := .tuple #[itV ⟨1, T, 0⟩, .bool true]) (by simp [results, Tryd.results43, go_sem, r0, r1, r2, itV]) rfl
        (by rw [HRV.out]; exact ⟨kq3 HI5.out.kq HGI2.out.2 HGI2.out.1 _ _ _, rfl, ((HI5.out.rd.far (p := ⟨gi, 0, none⟩) hne _).far (p := ⟨gi, 1, none⟩) hne _).far (p := ⟨gi, 2, none⟩) hne _⟩)
    · rw [if_neg hv] at he
      subst he
      have HRV := Lib.hid (show R = .error 1007 by rw [HRR.out, ← HTT.out, if_pos ⟨by first | trivial | rfl, by simpa using hv⟩])
      clear hv
      go_wp2_with fail
      exact ⟨rfl, by rw [HRV.out]; exact ⟨HI5.out.kq, rfl, _, _, _, _, HI5.out.rd⟩⟩
  · have gk : ((kind : Int) == 1) = false := by simp; omega
    have HRV := Lib.hid (show R = .ok (some ⟨kind, T, 0⟩, rdC mk L 0 ⟨#[]⟩ false) by rw [HRR.out, ← HTT.out, if_neg (fun h => hk1 h.1)])
    clear x0
    have x0 : w4.cell? ⟨g9, 0, none⟩ = some (.int .i64 (kind : Nat)) := HB4.out.cell 0
    have x1 : w4.cell? ⟨g9, 1, none⟩ = some (.string T) := HB4.out.cell 1
    have x2 : w4.cell? ⟨g9, 2, none⟩ = some (.int .i64 0) := HB4.out.cell 2
    have f0 := HI4.out.it.frozen 0
    have f1 := HI4.out.it.frozen 1
    have f2 := HI4.out.it.frozen 2
    have y0 := HI4.out.it.cell 0
    have y1 := HI4.out.it.cell 1
    have y2 := HI4.out.it.cell 2
    go_wp2_with fail
    have FB := box3 HI4.out.it (.int .i64 (kind : Nat)) (.string T) (.int .i64 0)
    have r0 := FB.cell 0
    have r1 := FB.cell 1
    have r2 := FB.cell 2
    have hne : ¬ gr = gi := Nat.ne_of_lt HGI2.out.1
    exact bodyPost_ret (v := .tuple #[itV ⟨kind, T, 0⟩, .bool true]) (by simp [results, Tryd.results43, go_sem, r0, r1, r2, itV]) rfl
      (by rw [HRV.out]; exact ⟨kq3 HI4.out.kq HGI2.out.2 HGI2.out.1 _ _ _, rfl, ((HI4.out.rd.far (p := ⟨gi, 0, none⟩) hne _).far (p := ⟨gi, 1, none⟩) hne _).far (p := ⟨gi, 2, none⟩) hne _⟩)
set_option maxRecDepth 100000 in
set_option maxHeartbeats 2000000 in
theorem item_more1_true (gr : Nat) (mk : Bool) (L : Value) (kind : Nat) (text : ByteArray) (m : Nat → Nat) (w : World) (msk : Bool) (pay : ByteArray) (hz : text.size + pay.size ≤ 100000) (_hk2 : kind ≤ 2) (hT : TabG w gr) (h : Bk w gr 59 (rdC mk L kind text false)) :
    Calls Tryd.prog 43 #[.pointer (some ⟨gr, 0, none⟩), frV ⟨true, 1, msk, pay⟩ m] w (ItemPost gr L w (if 1 = 1 ∧ Lib.validD (text ++ pay).data.toList = false then .error 1007 else .ok (some ⟨1, text ++ pay, 0⟩, rdC mk L 0 ⟨#[]⟩ false))) := by
  have HT := Lib.hid hT
  clear hT
  obtain ⟨R, hR⟩ : ∃ R : Except Nat (Option ItM × Array Value), R = (if 1 = 1 ∧ Lib.validD (text ++ pay).data.toList = false then .error 1007 else .ok (some ⟨1, text ++ pay, 0⟩, rdC mk L 0 ⟨#[]⟩ false)) := ⟨_, rfl⟩
  have HRR := Lib.hid hR
  rw [← hR]
  clear hR
  have hI := its_new gr w mk L kind text ⟨true, 1, msk, pay⟩ m h
  obtain ⟨w0, hw0⟩ : ∃ x, x = w.alloc (.cells (frC ⟨true, 1, msk, pay⟩ m) 24) := ⟨_, rfl⟩
  rw [← hw0] at hI
  have hs0 : w0.heap.size = w.heap.size + 1 := by rw [hw0]; simp
  obtain ⟨w1, hw1⟩ : ∃ x, x = w0.alloc (.cells #[.int .i64 0, .string ⟨#[]⟩, .int .i64 0] 56) := ⟨_, rfl⟩
  rw [← hw1] at hI
  obtain ⟨gf, hgf⟩ : ∃ g, g = w.heap.size := ⟨_, rfl⟩
  obtain ⟨gi, hgi⟩ : ∃ g, g = w.heap.size + 1 := ⟨_, rfl⟩
  rw [← hgi, ← hgf] at hI
  have HI := Lib.hid hI
  have HW0 := Lib.hid hw0
  have HW1 := Lib.hid hw1
  have HGF := Lib.hid hgf
  have HGI := Lib.hid (show gi = gf + 1 by rw [hgi, hgf])
  have z1 : w1.cell? ⟨gf, 1, none⟩ = some (.int .i64 1) := hI.fr.cell 1
  have z0 : w1.cell? ⟨gf, 0, none⟩ = some (.bool true) := hI.fr.cell 0
  have z4 : w1.cell? ⟨gf, 7, none⟩ = some (.string pay) := hI.fr.cell 7
  clear hI hw0 hw1 hgf hgi hs0 h
  unfold frV
  dsimp only
  go_enter Tryd.func43, Tryd.ntmps43
  go_upto_region 1 with fail
  rw [show w.alloc (.cells #[.bool true, .int .i64 1, .bool msk, .int .u8 (m 0 : Nat), .int .u8 (m 1 : Nat), .int .u8 (m 2 : Nat), .int .u8 (m 3 : Nat), .string pay] 24) = w0 from HW0.out.symm, ← HW1.out, ← HGF.out, ← HGI.out]
  obtain ⟨T, hTT⟩ : ∃ T, T = text ++ pay := ⟨_, rfl⟩
  have hadd : ∀ w' : World, (Op.stringOp .add text pay).run Tryd.prog w' = .ok (.string T) w' := fun w' => by rw [hTT]; exact run_string_add_sum (P := Tryd.prog) w' _ _ (by omega)
  have HTT := Lib.hid hTT
  have hTz : T.size ≤ 100000 := by rw [hTT, ByteArray.size_append]; exact hz
  clear hTT
  have c2 := HI.out.rd.cell 2
  have c3 : w1.cell? ⟨gr, 3, none⟩ = some (.string text) := HI.out.rd.cell 3
  have q2 := HI.out.rd.frozen 2
  have q3 := HI.out.rd.frozen 3
  have c2 : w1.cell? ⟨gr, 2, none⟩ = some (.int .i64 (kind : Nat)) := c2
  go_upto_region 12 with fail
  obtain ⟨wk, hwk⟩ : ∃ x, x = w1.setCell ⟨gr, 2, none⟩ (.int .i64 1) := ⟨_, rfl⟩
  have HIK := Lib.hid (show ItS gr gi gf w wk mk L 1 text _ m by rw [hwk]; exact HI.out.setK 1)
  rw [← hwk]
  clear hwk z0 z1 z4 c2 c3 q2 q3
  have z0 : wk.cell? ⟨gf, 0, none⟩ = some (.bool true) := HIK.out.fr.cell 0
  have z4 : wk.cell? ⟨gf, 7, none⟩ = some (.string pay) := HIK.out.fr.cell 7
  have c3 : wk.cell? ⟨gr, 3, none⟩ = some (.string text) := HIK.out.rd.cell 3
  have q3 := HIK.out.rd.frozen 3
  go_wp2_with fail
  go_still_tail 9, (by kernel_rfl)
  change wpList _ _ _ _ _ wk.drew
  go_upto_region 13 with fail
  obtain ⟨w2, hw2⟩ : ∃ x, x = (wk.setCell ⟨gr, 3, none⟩ (.string T)).drew := ⟨_, rfl⟩
  have HI2 := Lib.hid (show ItS gr gi gf w w2 mk L 1 T _ m by rw [hw2]; exact (HIK.out.setT T).drew)
  rw [← hw2]
  clear hw2 z0 z4 c3 q3
  have hgi := its_it HI2.out
  have z0 : w2.cell? ⟨gf, 0, none⟩ = some (.bool true) := HI2.out.fr.cell 0
  have HRW := Lib.hid HI2.out.rd
  have HGI2 := Lib.hid hgi
  clear hgi
  go_wp2_with fail
  refine wp_region_list [some 47, some 48, some 49, some 50, some 51, some 52, some 53, some 54, some 55, some 7, none] (fun j => bif j == 10 then 7 else 0) (stF w2 gr 1 T) (fun w1 => Below w2.heap.size w2 w1) (by kernel_rfl) (Below.refl _ _).drew rfl (by kernel_rfl) (by kernel_rfl) (by kernel_rfl) (by kernel_rfl) (fun U hU => ?_)
  simp only [List.filterMap_cons, List.filterMap_nil, id, putsS, Act.put, List.setIfInBounds_toArray, List.set_cons_zero, List.set_cons_succ] at hU
  subst hU
  refine ⟨⟨?_, ?_, ?_, ?_, ?_, ?_, ?_, ?_, ?_, ?_, ?_, trivial⟩, ?_⟩
  · -- 0: Op.move t0
    refine StepL.act ?_
    intro f w1 hG hF K hK
    clear hF
    dsimp only at hK ⊢
    go_simp
    exact hK.out _ _ hG rfl (fun _ _ _ _ h => h)
  · -- 1: Op.nilCheck t47
    refine StepL.act ?_
    intro f w1 hG hF K hK
    have d0 : (stF w2 gr 1 T) 0 (f 47) (f 0) w1 := hF 0 (by kernel_rfl)
    clear hF
    dsimp only at hK ⊢
    generalize f 47 = v47 at *
    subst d0
    go_simp
    exact hK.out _ _ hG rfl (fun _ _ _ _ h => h)
  · -- 2: Op.fieldAddr 59 t48 2
    refine StepL.act ?_
    intro f w1 hG hF K hK
    have d1 : (stF w2 gr 1 T) 1 (f 48) (f 0) w1 := hF 1 (by kernel_rfl)
    clear hF
    dsimp only at hK ⊢
    generalize f 48 = v48 at *
    subst d1
    go_simp
    exact hK.out _ _ hG rfl (fun _ _ _ _ h => h)
  · -- 3: Op.load 3 t49
    refine StepL.act ?_
    intro f w1 hG hF K hK
    have d2 : (stF w2 gr 1 T) 2 (f 49) (f 0) w1 := hF 2 (by kernel_rfl)
    clear hF
    dsimp only at hK ⊢
    generalize f 49 = v49 at *
    subst d2
    have y : w1.cell? ⟨gr, 2, none⟩ = some (.int .i64 (1 : Nat)) := (HRW.out.bel hG).cell 2
    go_simp
    exact hK.out _ _ hG rfl (fun _ _ _ _ h => h)
  · -- 4: Op.move t0
    refine StepL.act ?_
    intro f w1 hG hF K hK
    clear hF
    dsimp only at hK ⊢
    go_simp
    exact hK.out _ _ hG rfl (fun _ _ _ _ h => h)
  · -- 5: Op.nilCheck t51
    refine StepL.act ?_
    intro f w1 hG hF K hK
    have d4 : (stF w2 gr 1 T) 4 (f 51) (f 0) w1 := hF 4 (by kernel_rfl)
    clear hF
    dsimp only at hK ⊢
    generalize f 51 = v51 at *
    subst d4
    go_simp
    exact hK.out _ _ hG rfl (fun _ _ _ _ h => h)
  · -- 6: Op.fieldAddr 59 t52 3
    refine StepL.act ?_
    intro f w1 hG hF K hK
    have d5 : (stF w2 gr 1 T) 5 (f 52) (f 0) w1 := hF 5 (by kernel_rfl)
    clear hF
    dsimp only at hK ⊢
    generalize f 52 = v52 at *
    subst d5
    go_simp
    exact hK.out _ _ hG rfl (fun _ _ _ _ h => h)
  · -- 7: Op.load 9 t53
    refine StepL.act ?_
    intro f w1 hG hF K hK
    have d6 : (stF w2 gr 1 T) 6 (f 53) (f 0) w1 := hF 6 (by kernel_rfl)
    clear hF
    dsimp only at hK ⊢
    generalize f 53 = v53 at *
    subst d6
    have y : w1.cell? ⟨gr, 3, none⟩ = some (.string T) := (HRW.out.bel hG).cell 3
    go_simp
    exact hK.out _ _ hG rfl (fun _ _ _ _ h => h)
  · -- 8: Op.build 56 #[(0, t50), (1, t54)]
    refine StepL.act ?_
    intro f w1 hG hF K hK
    have d3 : (stF w2 gr 1 T) 3 (f 50) (f 0) w1 := hF 3 (by kernel_rfl)
    have d7 : (stF w2 gr 1 T) 7 (f 54) (f 0) w1 := hF 7 (by kernel_rfl)
    clear hF
    dsimp only at hK ⊢
    generalize f 50 = v50 at *
    generalize f 54 = v54 at *
    subst d3
    subst d7
    go_simp
    exact hK.out _ _ hG rfl (fun _ _ _ _ h => h)
  · -- 9: Op.alloc 56
    refine StepL.act ?_
    intro f w1 hG hF K hK
    clear hF
    dsimp only at hK ⊢
    go_simp
    exact hK.out _ _ (hG.alloc hG.size _) ⟨w1.heap.size, rfl, hG.size, _, _, _, Bk.new w1 _ _⟩ (fun j _ _ _ h => stF_bel ((Below.refl _ _).alloc (Nat.le_refl _) _) j _ _ h)
  · -- 10: Op.store 56 t7 t55
    intro f w1 hG hF K hK
    have d9 : (stF w2 gr 1 T) 9 (f 7) (f 0) w1 := hF 9 (by kernel_rfl)
    have d8 : (stF w2 gr 1 T) 8 (f 55) (f 0) w1 := hF 8 (by kernel_rfl)
    clear hF
    dsimp only at hK ⊢
    generalize hf7 : f 7 = v7 at *
    generalize hf55 : f 55 = v55 at *
    obtain ⟨g9, rfl, hg9, b0, b1, b2, hb9⟩ := d9
    subst d8
    have y0 := hb9.cell 0
    have y1 := hb9.cell 1
    have y2 := hb9.cell 2
    have f0 := hb9.frozen 0
    have f1 := hb9.frozen 1
    have f2 := hb9.frozen 2
    go_simp
    exact hK.out undef _ (below3 hG hg9 _ _ _) ⟨g9, hf7, hg9, box3 hb9 _ _ _⟩ (fun j h1 _ h => by
      by_cases h9 : j = 9
      · subst h9
        exact ⟨g9, hf7, hg9, _, _, _, box3 hb9 _ _ _⟩
      · exact stF_far j h9 h1 h)
  intro f w3 hG hF
  have R9 : ∃ g, f 7 = .pointer (some ⟨g, 0, none⟩) ∧ w2.heap.size ≤ g ∧ Bk w3 g 56 #[.int .i64 (1 : Nat), .string T, .int .i64 0] := hF 10 (by decide)
  obtain ⟨g9, e9, hg9, hb9⟩ := R9
  have HI3 := Lib.hid (HI2.out.bel hG)
  clear hF hG
  dsimp only
  generalize f 47 = v47
  generalize f 48 = v48
  generalize f 49 = v49
  generalize f 50 = v50
  generalize f 51 = v51
  generalize f 52 = v52
  generalize f 53 = v53
  generalize f 54 = v54
  generalize f 55 = v55
  generalize f 7 = v7 at *
  subst e9
  have hlt9 : gr < g9 := Nat.lt_of_lt_of_le HI2.out.rd.lt hg9
  have c2 := HI3.out.rd.cell 2
  have q2 := HI3.out.rd.frozen 2
  have c3 := HI3.out.rd.cell 3
  have q3 := HI3.out.rd.frozen 3
  have c2' : w3.cell? ⟨gr, 2, none⟩ = some (.int .i64 (1 : Nat)) := c2
  have c3' : w3.cell? ⟨gr, 3, none⟩ = some (.string T) := c3
  clear c2 c3
  obtain ⟨w4, hw4⟩ : ∃ x, x = (w3.setCell ⟨gr, 2, none⟩ (.int .i64 0)).setCell ⟨gr, 3, none⟩ (.string ⟨#[]⟩) := ⟨_, rfl⟩
  have HI4 := Lib.hid (show ItS gr gi gf w w4 mk L 0 ⟨#[]⟩ _ m by rw [hw4]; exact (HI3.out.setK 0).setT ⟨#[]⟩)
  have HB4 := Lib.hid (show Bk w4 g9 56 #[.int .i64 (1 : Nat), .string T, .int .i64 0] by
    rw [hw4]
    exact (hb9.far (p := ⟨gr, 2, none⟩) (Ne.symm (Nat.ne_of_lt hlt9)) _).far (p := ⟨gr, 3, none⟩) (Ne.symm (Nat.ne_of_lt hlt9)) _)
  have HW4 := Lib.hid hw4
  have HL9 := Lib.hid hlt9
  clear hb9 hg9 hw4 hlt9
  go_upto_region 17 with fail
  rw [← HW4.out]
  clear c2' c3' q2 q3 HW4 HI3 HI2 HRW HI z0
  have x0 : w4.cell? ⟨g9, 0, none⟩ = some (.int .i64 (1 : Nat)) := HB4.out.cell 0
  have HTG := Lib.hid (HT.out.kq HI4.out.kq)
  have x1 : w4.cell? ⟨g9, 1, none⟩ = some (.string T) := HB4.out.cell 1
  go_wp2_with fail
  refine (needText_any T (by omega) w4 HTG.out.tabs).mono ?_
  rintro e w5 ⟨b5, he⟩
  have HI5 := Lib.hid (HI4.out.bel b5)
  have HB5 := Lib.hid (HB4.out.bel b5)
  clear b5 x0 x1
  by_cases hv : Lib.validD T.data.toList = true
  · rw [if_pos hv] at he
    subst he
    have HRV := Lib.hid (show R = .ok (some ⟨1, T, 0⟩, rdC mk L 0 ⟨#[]⟩ false) by rw [HRR.out, ← HTT.out, if_neg (by rw [hv]; simp)])
    clear hv
    have x0 : w5.cell? ⟨g9, 0, none⟩ = some (.int .i64 (1 : Nat)) := HB5.out.cell 0
    have x1 : w5.cell? ⟨g9, 1, none⟩ = some (.string T) := HB5.out.cell 1
    have x2 : w5.cell? ⟨g9, 2, none⟩ = some (.int .i64 0) := HB5.out.cell 2
    have f0 := HI5.out.it.frozen 0
    have f1 := HI5.out.it.frozen 1
    have f2 := HI5.out.it.frozen 2
    have y0 := HI5.out.it.cell 0
    have y1 := HI5.out.it.cell 1
    have y2 := HI5.out.it.cell 2
    go_wp2_with fail
    have FB := box3 HI5.out.it (.int .i64 1) (.string T) (.int .i64 0)
    have r0 := FB.cell 0
    have r1 := FB.cell 1
    have r2 := FB.cell 2
    have hne : ¬ gr = gi := Nat.ne_of_lt HGI2.out.1
    exact bodyPost_ret (v := .tuple #[itV ⟨1, T, 0⟩, .bool true]) (by simp [results, Tryd.results43, go_sem, r0, r1, r2, itV]) rfl
      (by rw [HRV.out]; exact ⟨kq3 HI5.out.kq HGI2.out.2 HGI2.out.1 _ _ _, rfl, ((HI5.out.rd.far (p := ⟨gi, 0, none⟩) hne _).far (p := ⟨gi, 1, none⟩) hne _).far (p := ⟨gi, 2, none⟩) hne _⟩)
  · rw [if_neg hv] at he
    subst he
    have HRV := Lib.hid (show R = .error 1007 by rw [HRR.out, ← HTT.out, if_pos ⟨by first | trivial | rfl, by simpa using hv⟩])
    clear hv
    go_wp2_with fail
    exact ⟨rfl, by rw [HRV.out]; exact ⟨HI5.out.kq, rfl, _, _, _, _, HI5.out.rd⟩⟩
set_option maxRecDepth 100000 in
set_option maxHeartbeats 2000000 in
theorem item_more2_true (gr : Nat) (mk : Bool) (L : Value) (kind : Nat) (text : ByteArray) (m : Nat → Nat) (w : World) (msk : Bool) (pay : ByteArray) (hz : text.size + pay.size ≤ 100000) (_hk2 : kind ≤ 2) (hT : TabG w gr) (h : Bk w gr 59 (rdC mk L kind text false)) :
    Calls Tryd.prog 43 #[.pointer (some ⟨gr, 0, none⟩), frV ⟨true, 2, msk, pay⟩ m] w (ItemPost gr L w (if 2 = 1 ∧ Lib.validD (text ++ pay).data.toList = false then .error 1007 else .ok (some ⟨2, text ++ pay, 0⟩, rdC mk L 0 ⟨#[]⟩ false))) := by
  have HT := Lib.hid hT
  clear hT
  obtain ⟨R, hR⟩ : ∃ R : Except Nat (Option ItM × Array Value), R = (if 2 = 1 ∧ Lib.validD (text ++ pay).data.toList = false then .error 1007 else .ok (some ⟨2, text ++ pay, 0⟩, rdC mk L 0 ⟨#[]⟩ false)) := ⟨_, rfl⟩
  have HRR := Lib.hid hR
  rw [← hR]
  clear hR
  have hI := its_new gr w mk L kind text ⟨true, 2, msk, pay⟩ m h
  obtain ⟨w0, hw0⟩ : ∃ x, x = w.alloc (.cells (frC ⟨true, 2, msk, pay⟩ m) 24) := ⟨_, rfl⟩
  rw [← hw0] at hI
  have hs0 : w0.heap.size = w.heap.size + 1 := by rw [hw0]; simp
  obtain ⟨w1, hw1⟩ : ∃ x, x = w0.alloc (.cells #[.int .i64 0, .string ⟨#[]⟩, .int .i64 0] 56) := ⟨_, rfl⟩
  rw [← hw1] at hI
  obtain ⟨gf, hgf⟩ : ∃ g, g = w.heap.size := ⟨_, rfl⟩
  obtain ⟨gi, hgi⟩ : ∃ g, g = w.heap.size + 1 := ⟨_, rfl⟩
  rw [← hgi, ← hgf] at hI
  have HI := Lib.hid hI
  have HW0 := Lib.hid hw0
  have HW1 := Lib.hid hw1
  have HGF := Lib.hid hgf
  have HGI := Lib.hid (show gi = gf + 1 by rw [hgi, hgf])
  have z1 : w1.cell? ⟨gf, 1, none⟩ = some (.int .i64 2) := hI.fr.cell 1
  have z0 : w1.cell? ⟨gf, 0, none⟩ = some (.bool true) := hI.fr.cell 0
  have z4 : w1.cell? ⟨gf, 7, none⟩ = some (.string pay) := hI.fr.cell 7
  clear hI hw0 hw1 hgf hgi hs0 h
  unfold frV
  dsimp only
  go_enter Tryd.func43, Tryd.ntmps43
  go_upto_region 1 with fail
  rw [show w.alloc (.cells #[.bool true, .int .i64 2, .bool msk, .int .u8 (m 0 : Nat), .int .u8 (m 1 : Nat), .int .u8 (m 2 : Nat), .int .u8 (m 3 : Nat), .string pay] 24) = w0 from HW0.out.symm, ← HW1.out, ← HGF.out, ← HGI.out]
  obtain ⟨T, hTT⟩ : ∃ T, T = text ++ pay := ⟨_, rfl⟩
  have hadd : ∀ w' : World, (Op.stringOp .add text pay).run Tryd.prog w' = .ok (.string T) w' := fun w' => by rw [hTT]; exact run_string_add_sum (P := Tryd.prog) w' _ _ (by omega)
  have HTT := Lib.hid hTT
  have hTz : T.size ≤ 100000 := by rw [hTT, ByteArray.size_append]; exact hz
  clear hTT
  have c2 := HI.out.rd.cell 2
  have c3 : w1.cell? ⟨gr, 3, none⟩ = some (.string text) := HI.out.rd.cell 3
  have q2 := HI.out.rd.frozen 2
  have q3 := HI.out.rd.frozen 3
  have c2 : w1.cell? ⟨gr, 2, none⟩ = some (.int .i64 (kind : Nat)) := c2
  go_upto_region 12 with fail
  obtain ⟨wk, hwk⟩ : ∃ x, x = w1.setCell ⟨gr, 2, none⟩ (.int .i64 2) := ⟨_, rfl⟩
  have HIK := Lib.hid (show ItS gr gi gf w wk mk L 2 text _ m by rw [hwk]; exact HI.out.setK 2)
  rw [← hwk]
  clear hwk z0 z1 z4 c2 c3 q2 q3
  have z0 : wk.cell? ⟨gf, 0, none⟩ = some (.bool true) := HIK.out.fr.cell 0
  have z4 : wk.cell? ⟨gf, 7, none⟩ = some (.string pay) := HIK.out.fr.cell 7
  have c3 : wk.cell? ⟨gr, 3, none⟩ = some (.string text) := HIK.out.rd.cell 3
  have q3 := HIK.out.rd.frozen 3
  go_wp2_with fail
  go_still_tail 9, (by kernel_rfl)
  change wpList _ _ _ _ _ wk.drew
  go_upto_region 13 with fail
  obtain ⟨w2, hw2⟩ : ∃ x, x = (wk.setCell ⟨gr, 3, none⟩ (.string T)).drew := ⟨_, rfl⟩
  have HI2 := Lib.hid (show ItS gr gi gf w w2 mk L 2 T _ m by rw [hw2]; exact (HIK.out.setT T).drew)
  rw [← hw2]
  clear hw2 z0 z4 c3 q3
  have hgi := its_it HI2.out
  have z0 : w2.cell? ⟨gf, 0, none⟩ = some (.bool true) := HI2.out.fr.cell 0
  have HRW := Lib.hid HI2.out.rd
  have HGI2 := Lib.hid hgi
  clear hgi
  go_wp2_with fail
  refine wp_region_list [some 47, some 48, some 49, some 50, some 51, some 52, some 53, some 54, some 55, some 7, none] (fun j => bif j == 10 then 7 else 0) (stF w2 gr 2 T) (fun w1 => Below w2.heap.size w2 w1) (by kernel_rfl) (Below.refl _ _).drew rfl (by kernel_rfl) (by kernel_rfl) (by kernel_rfl) (by kernel_rfl) (fun U hU => ?_)
  simp only [List.filterMap_cons, List.filterMap_nil, id, putsS, Act.put, List.setIfInBounds_toArray, List.set_cons_zero, List.set_cons_succ] at hU
  subst hU
  refine ⟨⟨?_, ?_, ?_, ?_, ?_, ?_, ?_, ?_, ?_, ?_, ?_, trivial⟩, ?_⟩
  · -- 0: Op.move t0
    refine StepL.act ?_
    intro f w1 hG hF K hK
    clear hF
    dsimp only at hK ⊢
    go_simp
    exact hK.out _ _ hG rfl (fun _ _ _ _ h => h)
  · -- 1: Op.nilCheck t47
    refine StepL.act ?_
    intro f w1 hG hF K hK
    have d0 : (stF w2 gr 2 T) 0 (f 47) (f 0) w1 := hF 0 (by kernel_rfl)
    clear hF
    dsimp only at hK ⊢
    generalize f 47 = v47 at *
    subst d0
    go_simp
    exact hK.out _ _ hG rfl (fun _ _ _ _ h => h)
  · -- 2: Op.fieldAddr 59 t48 2
    refine StepL.act ?_
    intro f w1 hG hF K hK
    have d1 : (stF w2 gr 2 T) 1 (f 48) (f 0) w1 := hF 1 (by kernel_rfl)
    clear hF
    dsimp only at hK ⊢
    generalize f 48 = v48 at *
    subst d1
    go_simp
    exact hK.out _ _ hG rfl (fun _ _ _ _ h => h)
  · -- 3: Op.load 3 t49
    refine StepL.act ?_
    intro f w1 hG hF K hK
    have d2 : (stF w2 gr 2 T) 2 (f 49) (f 0) w1 := hF 2 (by kernel_rfl)
    clear hF
    dsimp only at hK ⊢
    generalize f 49 = v49 at *
    subst d2
    have y : w1.cell? ⟨gr, 2, none⟩ = some (.int .i64 (2 : Nat)) := (HRW.out.bel hG).cell 2
    go_simp
    exact hK.out _ _ hG rfl (fun _ _ _ _ h => h)
  · -- 4: Op.move t0
    refine StepL.act ?_
    intro f w1 hG hF K hK
    clear hF
    dsimp only at hK ⊢
    go_simp
    exact hK.out _ _ hG rfl (fun _ _ _ _ h => h)
  · -- 5: Op.nilCheck t51
    refine StepL.act ?_
    intro f w1 hG hF K hK
    have d4 : (stF w2 gr 2 T) 4 (f 51) (f 0) w1 := hF 4 (by kernel_rfl)
    clear hF
    dsimp only at hK ⊢
    generalize f 51 = v51 at *
    subst d4
    go_simp
    exact hK.out _ _ hG rfl (fun _ _ _ _ h => h)
  · -- 6: Op.fieldAddr 59 t52 3
    refine StepL.act ?_
    intro f w1 hG hF K hK
    have d5 : (stF w2 gr 2 T) 5 (f 52) (f 0) w1 := hF 5 (by kernel_rfl)
    clear hF
    dsimp only at hK ⊢
    generalize f 52 = v52 at *
    subst d5
    go_simp
    exact hK.out _ _ hG rfl (fun _ _ _ _ h => h)
  · -- 7: Op.load 9 t53
    refine StepL.act ?_
    intro f w1 hG hF K hK
    have d6 : (stF w2 gr 2 T) 6 (f 53) (f 0) w1 := hF 6 (by kernel_rfl)
    clear hF
    dsimp only at hK ⊢
    generalize f 53 = v53 at *
    subst d6
    have y : w1.cell? ⟨gr, 3, none⟩ = some (.string T) := (HRW.out.bel hG).cell 3
    go_simp
    exact hK.out _ _ hG rfl (fun _ _ _ _ h => h)
  · -- 8: Op.build 56 #[(0, t50), (1, t54)]
    refine StepL.act ?_
    intro f w1 hG hF K hK
    have d3 : (stF w2 gr 2 T) 3 (f 50) (f 0) w1 := hF 3 (by kernel_rfl)
    have d7 : (stF w2 gr 2 T) 7 (f 54) (f 0) w1 := hF 7 (by kernel_rfl)
    clear hF
    dsimp only at hK ⊢
    generalize f 50 = v50 at *
    generalize f 54 = v54 at *
    subst d3
    subst d7
    go_simp
    exact hK.out _ _ hG rfl (fun _ _ _ _ h => h)
  · -- 9: Op.alloc 56
    refine StepL.act ?_
    intro f w1 hG hF K hK
    clear hF
    dsimp only at hK ⊢
    go_simp
    exact hK.out _ _ (hG.alloc hG.size _) ⟨w1.heap.size, rfl, hG.size, _, _, _, Bk.new w1 _ _⟩ (fun j _ _ _ h => stF_bel ((Below.refl _ _).alloc (Nat.le_refl _) _) j _ _ h)
  · -- 10: Op.store 56 t7 t55
    intro f w1 hG hF K hK
    have d9 : (stF w2 gr 2 T) 9 (f 7) (f 0) w1 := hF 9 (by kernel_rfl)
    have d8 : (stF w2 gr 2 T) 8 (f 55) (f 0) w1 := hF 8 (by kernel_rfl)
    clear hF
    dsimp only at hK ⊢
    generalize hf7 : f 7 = v7 at *
    generalize hf55 : f 55 = v55 at *
    obtain ⟨g9, rfl, hg9, b0, b1, b2, hb9⟩ := d9
    subst d8
    have y0 := hb9.cell 0
    have y1 := hb9.cell 1
    have y2 := hb9.cell 2
    have f0 := hb9.frozen 0
    have f1 := hb9.frozen 1
    have f2 := hb9.frozen 2
    go_simp
    exact hK.out undef _ (below3 hG hg9 _ _ _) ⟨g9, hf7, hg9, box3 hb9 _ _ _⟩ (fun j h1 _ h => by
      by_cases h9 : j = 9
      · subst h9
        exact ⟨g9, hf7, hg9, _, _, _, box3 hb9 _ _ _⟩
      · exact stF_far j h9 h1 h)
  intro f w3 hG hF
  have R9 : ∃ g, f 7 = .pointer (some ⟨g, 0, none⟩) ∧ w2.heap.size ≤ g ∧ Bk w3 g 56 #[.int .i64 (2 : Nat), .string T, .int .i64 0] := hF 10 (by decide)
  obtain ⟨g9, e9, hg9, hb9⟩ := R9
  have HI3 := Lib.hid (HI2.out.bel hG)
  clear hF hG
  dsimp only
  generalize f 47 = v47
  generalize f 48 = v48
  generalize f 49 = v49
  generalize f 50 = v50
  generalize f 51 = v51
  generalize f 52 = v52
  generalize f 53 = v53
  generalize f 54 = v54
  generalize f 55 = v55
  generalize f 7 = v7 at *
  subst e9
  have hlt9 : gr < g9 := Nat.lt_of_lt_of_le HI2.out.rd.lt hg9
  have c2 := HI3.out.rd.cell 2
  have q2 := HI3.out.rd.frozen 2
  have c3 := HI3.out.rd.cell 3
  have q3 := HI3.out.rd.frozen 3
  have c2' : w3.cell? ⟨gr, 2, none⟩ = some (.int .i64 (2 : Nat)) := c2
  have c3' : w3.cell? ⟨gr, 3, none⟩ = some (.string T) := c3
  clear c2 c3
  obtain ⟨w4, hw4⟩ : ∃ x, x = (w3.setCell ⟨gr, 2, none⟩ (.int .i64 0)).setCell ⟨gr, 3, none⟩ (.string ⟨#[]⟩) := ⟨_, rfl⟩
  have HI4 := Lib.hid (show ItS gr gi gf w w4 mk L 0 ⟨#[]⟩ _ m by rw [hw4]; exact (HI3.out.setK 0).setT ⟨#[]⟩)
  have HB4 := Lib.hid (show Bk w4 g9 56 #[.int .i64 (2 : Nat), .string T, .int .i64 0] by
    rw [hw4]
    exact (hb9.far (p := ⟨gr, 2, none⟩) (Ne.symm (Nat.ne_of_lt hlt9)) _).far (p := ⟨gr, 3, none⟩) (Ne.symm (Nat.ne_of_lt hlt9)) _)
  have HW4 := Lib.hid hw4
  have HL9 := Lib.hid hlt9
  clear hb9 hg9 hw4 hlt9
  go_upto_region 17 with fail
  rw [← HW4.out]
  clear c2' c3' q2 q3 HW4 HI3 HI2 HRW HI z0
  have x0 : w4.cell? ⟨g9, 0, none⟩ = some (.int .i64 (2 : Nat)) := HB4.out.cell 0
  have HRV := Lib.hid (show R = .ok (some ⟨2, T, 0⟩, rdC mk L 0 ⟨#[]⟩ false) by rw [HRR.out, ← HTT.out, if_neg (fun h => absurd h.1 (by decide))])
  clear x0
  have x0 : w4.cell? ⟨g9, 0, none⟩ = some (.int .i64 (2 : Nat)) := HB4.out.cell 0
  have x1 : w4.cell? ⟨g9, 1, none⟩ = some (.string T) := HB4.out.cell 1
  have x2 : w4.cell? ⟨g9, 2, none⟩ = some (.int .i64 0) := HB4.out.cell 2
  have f0 := HI4.out.it.frozen 0
  have f1 := HI4.out.it.frozen 1
  have f2 := HI4.out.it.frozen 2
  have y0 := HI4.out.it.cell 0
  have y1 := HI4.out.it.cell 1
  have y2 := HI4.out.it.cell 2
  go_wp2_with fail
  have FB := box3 HI4.out.it (.int .i64 2) (.string T) (.int .i64 0)
  have r0 := FB.cell 0
  have r1 := FB.cell 1
  have r2 := FB.cell 2
  have hne : ¬ gr = gi := Nat.ne_of_lt HGI2.out.1
  exact bodyPost_ret (v := .tuple #[itV ⟨2, T, 0⟩, .bool true]) (by simp [results, Tryd.results43, go_sem, r0, r1, r2, itV]) rfl
    (by rw [HRV.out]; exact ⟨kq3 HI4.out.kq HGI2.out.2 HGI2.out.1 _ _ _, rfl, ((HI4.out.rd.far (p := ⟨gi, 0, none⟩) hne _).far (p := ⟨gi, 1, none⟩) hne _).far (p := ⟨gi, 2, none⟩) hne _⟩)
end Go.Proofs.YtnbhgjionpidnaaDoor
