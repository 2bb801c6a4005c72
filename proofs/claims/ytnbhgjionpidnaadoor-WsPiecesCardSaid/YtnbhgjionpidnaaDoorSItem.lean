/- The reader takes a frame in. Conditions: the reader lies in memory; the tables of UTF-8 are laid. -/
import Derived.Test.YtnbhgjionpidnaaDoorSFits
namespace Go.Proofs.YtnbhgjionpidnaaDoor
open Go.RowKit

/-- What a frame comes to: an item, or none, and the reader's cells; or a code. -/
def itemN (mk : Bool) (L : Value) (kind : Nat) (text : ByteArray) (f : FrM) : Except Nat (Option ItM × Array Value) :=
  if f.op = 8 then (match closedN f.pay with | .error c => .error c | .ok i => .ok (some i, endC))
  else if f.op = 9 ∨ f.op = 10 then .ok (some ⟨f.op, f.pay, 0⟩, rdC mk L kind text false)
  else if f.fin = false then .ok (none, rdC mk L (if f.op = 1 ∨ f.op = 2 then f.op else kind) (text ++ f.pay) false)
  else if (if f.op = 1 ∨ f.op = 2 then f.op else kind) = 1 ∧ Lib.validD (text ++ f.pay).data.toList = false then .error 1007
  else .ok (some ⟨if f.op = 1 ∨ f.op = 2 then f.op else kind, text ++ f.pay, 0⟩, rdC mk L 0 ⟨#[]⟩ false)
def okV (i : Option ItM) : Value := match i with
  | some i => .tuple #[itV i, .bool true]
  | none => .tuple #[itV ⟨0, ⟨#[]⟩, 0⟩, .bool false]
def ItemPost (gr : Nat) (L : Value) (w : World) (r : Except Nat (Option ItM × Array Value)) (e : Ending) (w' : World) : Prop := KQ gr w w' ∧ match r with
  | .ok (i, cs) => e = .returned (okV i) ∧ Bk w' gr 59 cs
  | .error c => e = .panicked (giveE c) ∧ ∃ x0 x2 x3 x4, Bk w' gr 59 #[x0, L, x2, x3, x4]
/-- Both boxes, and the reader. -/
structure ItS (gr gi gf : Nat) (w w1 : World) (mk : Bool) (L : Value) (kind : Nat) (text : ByteArray) (f : FrM) (m : Nat → Nat) : Prop where
  kq : KQ gr w w1
  rd : Bk w1 gr 59 (rdC mk L kind text false)
  fr : Bk w1 gf 24 (frC f m)
  it : Bk w1 gi 56 #[.int .i64 0, .string ⟨#[]⟩, .int .i64 0]
  lt : gr < w.heap.size
  gf : gf = w.heap.size
  gi : gi = w.heap.size + 1
theorem ItS.bel {gr gi gf : Nat} {w w1 w2 : World} {mk : Bool} {L : Value} {kind : Nat} {text : ByteArray} {f : FrM} {m : Nat → Nat} (s : ItS gr gi gf w w1 mk L kind text f m) (hb : Below w1.heap.size w1 w2) : ItS gr gi gf w w2 mk L kind text f m :=
  ⟨s.kq.trans (KQ.of_below s.rd.lt hb), s.rd.bel hb, s.fr.bel hb, s.it.bel hb, s.lt, s.gf, s.gi⟩
theorem its_new (gr : Nat) (w : World) (mk : Bool) (L : Value) (kind : Nat) (text : ByteArray) (f : FrM) (m : Nat → Nat) (h : Bk w gr 59 (rdC mk L kind text false)) :
    ItS gr (w.heap.size + 1) w.heap.size w ((w.alloc (.cells (frC f m) 24)).alloc (.cells #[.int .i64 0, .string ⟨#[]⟩, .int .i64 0] 56)) mk L kind text f m := by
  have a1 : Below w.heap.size w (w.alloc (.cells (frC f m) 24)) := (Below.refl _ _).alloc (Nat.le_refl _) _
  have hs : (w.alloc (.cells (frC f m) 24)).heap.size = w.heap.size + 1 := by simp
  have a2 : Below w.heap.size w ((w.alloc (.cells (frC f m) 24)).alloc (.cells #[.int .i64 0, .string ⟨#[]⟩, .int .i64 0] 56)) := a1.alloc a1.size _
  refine ⟨KQ.of_below h.lt a2, h.bel a2, (Bk.new w _ _).alloc _, ?_, h.lt, rfl, rfl⟩
  have := Bk.new (w.alloc (.cells (frC f m) 24)) 56 #[.int .i64 0, .string ⟨#[]⟩, .int .i64 0]
  rw [hs] at this
  exact this
theorem kq3 {q g : Nat} {w w' : World} (h : KQ q w w') (hg : w.heap.size ≤ g) (hq : q < g) (a b c : Value) : KQ q w (((w'.setCell ⟨g, 0, none⟩ a).setCell ⟨g, 1, none⟩ b).setCell ⟨g, 2, none⟩ c) := by
  have k : ∀ (w1 : World) (i : Nat) (v : Value), KQ q w w1 → KQ q w (w1.setCell ⟨g, i, none⟩ v) := fun w1 i v h => by
    refine ⟨h.bel.setCell (p := ⟨g, i, none⟩) (Nat.le_of_lt hq) v, ⟨by simpa using h.kept.size, fun b hb hn => ?_⟩⟩
    rw [Below.heap_setCell w1 ⟨g, i, none⟩ v b (by show ¬ b = g; omega)]
    exact h.kept.block b hb hn
  exact k _ _ _ (k _ _ _ (k _ _ _ h))
set_option maxRecDepth 100000 in
set_option maxHeartbeats 1000000 in
theorem item_ctl9 (gr : Nat) (mk : Bool) (L : Value) (kind : Nat) (text : ByteArray) (m : Nat → Nat) (w : World) (fin msk : Bool) (pay : ByteArray) (h : Bk w gr 59 (rdC mk L kind text false)) :
    Calls Tryd.prog 43 #[.pointer (some ⟨gr, 0, none⟩), frV ⟨fin, 9, msk, pay⟩ m] w (ItemPost gr L w (.ok (some ⟨9, pay, 0⟩, rdC mk L kind text false))) := by
  have hI := its_new gr w mk L kind text ⟨fin, 9, msk, pay⟩ m h
  obtain ⟨w0, hw0⟩ : ∃ x, x = w.alloc (.cells (frC ⟨fin, 9, msk, pay⟩ m) 24) := ⟨_, rfl⟩
  rw [← hw0] at hI
  have hs0 : w0.heap.size = w.heap.size + 1 := by rw [hw0]; simp
  obtain ⟨w1, hw1⟩ : ∃ x, x = w0.alloc (.cells #[.int .i64 0, .string ⟨#[]⟩, .int .i64 0] 56) := ⟨_, rfl⟩
  rw [← hw1] at hI
  obtain ⟨gf, hgf⟩ : ∃ g, g = w.heap.size := ⟨_, rfl⟩
  obtain ⟨gi, hgi⟩ : ∃ g, g = w.heap.size + 1 := ⟨_, rfl⟩
  rw [← hgi, ← hgf] at hI
  have HI := Lib.hid hI
  have HW0 := Lib.hid hw0
  have HW1 := Lib.hid hw1
  have HGF := Lib.hid hgf
  have HGI := Lib.hid (show gi = gf + 1 by rw [hgi, hgf])
  have z1 : w1.cell? ⟨gf, 1, none⟩ = some (.int .i64 9) := hI.fr.cell 1
  have z0 : w1.cell? ⟨gf, 0, none⟩ = some (.bool fin) := hI.fr.cell 0
  have z4 : w1.cell? ⟨gf, 7, none⟩ = some (.string pay) := hI.fr.cell 7
  clear hI hw0 hw1 hgf hgi hs0 h
  unfold frV
  dsimp only
  go_enter Tryd.func43, Tryd.ntmps43
  go_upto_region 1 with fail
  rw [show w.alloc (.cells #[.bool fin, .int .i64 9, .bool msk, .int .u8 (m 0 : Nat), .int .u8 (m 1 : Nat), .int .u8 (m 2 : Nat), .int .u8 (m 3 : Nat), .string pay] 24) = w0 from HW0.out.symm, ← HW1.out, ← HGF.out, ← HGI.out]
  have f0 := HI.out.it.frozen 0
  have f1 := HI.out.it.frozen 1
  have f2 := HI.out.it.frozen 2
  have y0 := HI.out.it.cell 0
  have y1 := HI.out.it.cell 1
  have y2 := HI.out.it.cell 2
  go_wp2_with fail
  have FB := box3 HI.out.it (.int .i64 9) (.string pay) (.int .i64 0)
  have r0 := FB.cell 0
  have r1 := FB.cell 1
  have r2 := FB.cell 2
  have hne : ¬ gr = gi := by have := HI.out.lt; have := HI.out.gi; omega
  exact bodyPost_ret (v := .tuple #[itV ⟨9, pay, 0⟩, .bool true]) (by simp [results, Tryd.results43, go_sem, r0, r1, r2, itV]) rfl
    ⟨kq3 HI.out.kq (by have := HI.out.gi; omega) (by have := HI.out.lt; have := HI.out.gi; omega) _ _ _, rfl, ((HI.out.rd.far (p := ⟨gi, 0, none⟩) hne _).far (p := ⟨gi, 1, none⟩) hne _).far (p := ⟨gi, 2, none⟩) hne _⟩
set_option maxRecDepth 100000 in
set_option maxHeartbeats 1000000 in
theorem item_ctl10 (gr : Nat) (mk : Bool) (L : Value) (kind : Nat) (text : ByteArray) (m : Nat → Nat) (w : World) (fin msk : Bool) (pay : ByteArray) (h : Bk w gr 59 (rdC mk L kind text false)) :
    Calls Tryd.prog 43 #[.pointer (some ⟨gr, 0, none⟩), frV ⟨fin, 10, msk, pay⟩ m] w (ItemPost gr L w (.ok (some ⟨10, pay, 0⟩, rdC mk L kind text false))) := by
  have hI := its_new gr w mk L kind text ⟨fin, 10, msk, pay⟩ m h
  obtain ⟨w0, hw0⟩ : ∃ x, x = w.alloc (.cells (frC ⟨fin, 10, msk, pay⟩ m) 24) := ⟨_, rfl⟩
  rw [← hw0] at hI
  have hs0 : w0.heap.size = w.heap.size + 1 := by rw [hw0]; simp
  obtain ⟨w1, hw1⟩ : ∃ x, x = w0.alloc (.cells #[.int .i64 0, .string ⟨#[]⟩, .int .i64 0] 56) := ⟨_, rfl⟩
  rw [← hw1] at hI
  obtain ⟨gf, hgf⟩ : ∃ g, g = w.heap.size := ⟨_, rfl⟩
  obtain ⟨gi, hgi⟩ : ∃ g, g = w.heap.size + 1 := ⟨_, rfl⟩
  rw [← hgi, ← hgf] at hI
  have HI := Lib.hid hI
  have HW0 := Lib.hid hw0
  have HW1 := Lib.hid hw1
  have HGF := Lib.hid hgf
  have HGI := Lib.hid (show gi = gf + 1 by rw [hgi, hgf])
  have z1 : w1.cell? ⟨gf, 1, none⟩ = some (.int .i64 10) := hI.fr.cell 1
  have z0 : w1.cell? ⟨gf, 0, none⟩ = some (.bool fin) := hI.fr.cell 0
  have z4 : w1.cell? ⟨gf, 7, none⟩ = some (.string pay) := hI.fr.cell 7
  clear hI hw0 hw1 hgf hgi hs0 h
  unfold frV
  dsimp only
  go_enter Tryd.func43, Tryd.ntmps43
  go_upto_region 1 with fail
  rw [show w.alloc (.cells #[.bool fin, .int .i64 10, .bool msk, .int .u8 (m 0 : Nat), .int .u8 (m 1 : Nat), .int .u8 (m 2 : Nat), .int .u8 (m 3 : Nat), .string pay] 24) = w0 from HW0.out.symm, ← HW1.out, ← HGF.out, ← HGI.out]
  have f0 := HI.out.it.frozen 0
  have f1 := HI.out.it.frozen 1
  have f2 := HI.out.it.frozen 2
  have y0 := HI.out.it.cell 0
  have y1 := HI.out.it.cell 1
  have y2 := HI.out.it.cell 2
  go_wp2_with fail
  have FB := box3 HI.out.it (.int .i64 10) (.string pay) (.int .i64 0)
  have r0 := FB.cell 0
  have r1 := FB.cell 1
  have r2 := FB.cell 2
  have hne : ¬ gr = gi := by have := HI.out.lt; have := HI.out.gi; omega
  exact bodyPost_ret (v := .tuple #[itV ⟨10, pay, 0⟩, .bool true]) (by simp [results, Tryd.results43, go_sem, r0, r1, r2, itV]) rfl
    ⟨kq3 HI.out.kq (by have := HI.out.gi; omega) (by have := HI.out.lt; have := HI.out.gi; omega) _ _ _, rfl, ((HI.out.rd.far (p := ⟨gi, 0, none⟩) hne _).far (p := ⟨gi, 1, none⟩) hne _).far (p := ⟨gi, 2, none⟩) hne _⟩
theorem its_it {gr gi gf : Nat} {w w1 : World} {mk : Bool} {L : Value} {kind : Nat} {text : ByteArray} {f : FrM} {m : Nat → Nat} (s : ItS gr gi gf w w1 mk L kind text f m) : gr < gi ∧ w.heap.size ≤ gi := by have := s.lt; have := s.gi; omega
set_option maxRecDepth 100000 in
set_option maxHeartbeats 1000000 in
theorem item_close_no (gr : Nat) (mk : Bool) (L : Value) (kind : Nat) (text : ByteArray) (m : Nat → Nat) (w : World) (fin msk : Bool) (pay : ByteArray) (c : Nat) (hr : closedN pay = .error c) (hz : pay.size ≤ 100000) (hT : Tabs w) (h : Bk w gr 59 (rdC mk L kind text false)) :
    Calls Tryd.prog 43 #[.pointer (some ⟨gr, 0, none⟩), frV ⟨fin, 8, msk, pay⟩ m] w (ItemPost gr L w (.error c)) := by
  have HT := Lib.hid hT
  have HR := Lib.hid hr
  clear hT hr
  have hI := its_new gr w mk L kind text ⟨fin, 8, msk, pay⟩ m h
  obtain ⟨w0, hw0⟩ : ∃ x, x = w.alloc (.cells (frC ⟨fin, 8, msk, pay⟩ m) 24) := ⟨_, rfl⟩
  rw [← hw0] at hI
  have hs0 : w0.heap.size = w.heap.size + 1 := by rw [hw0]; simp
  obtain ⟨w1, hw1⟩ : ∃ x, x = w0.alloc (.cells #[.int .i64 0, .string ⟨#[]⟩, .int .i64 0] 56) := ⟨_, rfl⟩
  rw [← hw1] at hI
  obtain ⟨gf, hgf⟩ : ∃ g, g = w.heap.size := ⟨_, rfl⟩
  obtain ⟨gi, hgi⟩ : ∃ g, g = w.heap.size + 1 := ⟨_, rfl⟩
  rw [← hgi, ← hgf] at hI
  have HI := Lib.hid hI
  have HW0 := Lib.hid hw0
  have HW1 := Lib.hid hw1
  have HGF := Lib.hid hgf
  have HGI := Lib.hid (show gi = gf + 1 by rw [hgi, hgf])
  have z1 : w1.cell? ⟨gf, 1, none⟩ = some (.int .i64 8) := hI.fr.cell 1
  have z0 : w1.cell? ⟨gf, 0, none⟩ = some (.bool fin) := hI.fr.cell 0
  have z4 : w1.cell? ⟨gf, 7, none⟩ = some (.string pay) := hI.fr.cell 7
  clear hI hw0 hw1 hgf hgi hs0 h
  unfold frV
  dsimp only
  go_enter Tryd.func43, Tryd.ntmps43
  go_upto_region 1 with fail
  rw [show w.alloc (.cells #[.bool fin, .int .i64 8, .bool msk, .int .u8 (m 0 : Nat), .int .u8 (m 1 : Nat), .int .u8 (m 2 : Nat), .int .u8 (m 3 : Nat), .string pay] 24) = w0 from HW0.out.symm, ← HW1.out, ← HGF.out, ← HGI.out]
  have hT1 : Tabs w1 := by
    rw [HW1.out, HW0.out]
    exact (HT.out.bel ((Below.refl _ _).alloc (Nat.le_refl _) _)).bel ((Below.refl _ _).alloc (Nat.le_refl _) _)
  have CL := Lib.hid (closed_any pay hz w1 hT1)
  rw [HR.out] at CL
  clear hT1 HR
  go_wp2_with fail
  refine CL.out.mono ?_
  rintro e w2 ⟨b2, he⟩
  have HI2 := Lib.hid (HI.out.bel b2)
  dsimp only at he
  subst he
  clear b2 HI HT CL z0 z1 z4
  go_wp2_with fail
  exact ⟨rfl, HI2.out.kq, rfl, _, _, _, _, HI2.out.rd⟩
set_option maxRecDepth 100000 in
set_option maxHeartbeats 1000000 in
theorem item_close_ok (gr : Nat) (mk : Bool) (L : Value) (kind : Nat) (text : ByteArray) (m : Nat → Nat) (w : World) (fin msk : Bool) (pay : ByteArray) (ik ic : Nat) (it : ByteArray) (hr : closedN pay = .ok ⟨ik, it, ic⟩) (hz : pay.size ≤ 100000) (hT : Tabs w) (h : Bk w gr 59 (rdC mk L kind text false)) :
    Calls Tryd.prog 43 #[.pointer (some ⟨gr, 0, none⟩), frV ⟨fin, 8, msk, pay⟩ m] w (ItemPost gr L w (.ok (some ⟨ik, it, ic⟩, endC))) := by
  have HT := Lib.hid hT
  have HR := Lib.hid hr
  clear hT hr
  have hI := its_new gr w mk L kind text ⟨fin, 8, msk, pay⟩ m h
  obtain ⟨w0, hw0⟩ : ∃ x, x = w.alloc (.cells (frC ⟨fin, 8, msk, pay⟩ m) 24) := ⟨_, rfl⟩
  rw [← hw0] at hI
  have hs0 : w0.heap.size = w.heap.size + 1 := by rw [hw0]; simp
  obtain ⟨w1, hw1⟩ : ∃ x, x = w0.alloc (.cells #[.int .i64 0, .string ⟨#[]⟩, .int .i64 0] 56) := ⟨_, rfl⟩
  rw [← hw1] at hI
  obtain ⟨gf, hgf⟩ : ∃ g, g = w.heap.size := ⟨_, rfl⟩
  obtain ⟨gi, hgi⟩ : ∃ g, g = w.heap.size + 1 := ⟨_, rfl⟩
  rw [← hgi, ← hgf] at hI
  have HI := Lib.hid hI
  have HW0 := Lib.hid hw0
  have HW1 := Lib.hid hw1
  have HGF := Lib.hid hgf
  have HGI := Lib.hid (show gi = gf + 1 by rw [hgi, hgf])
  have z1 : w1.cell? ⟨gf, 1, none⟩ = some (.int .i64 8) := hI.fr.cell 1
  have z0 : w1.cell? ⟨gf, 0, none⟩ = some (.bool fin) := hI.fr.cell 0
  have z4 : w1.cell? ⟨gf, 7, none⟩ = some (.string pay) := hI.fr.cell 7
  clear hI hw0 hw1 hgf hgi hs0 h
  unfold frV
  dsimp only
  go_enter Tryd.func43, Tryd.ntmps43
  go_upto_region 1 with fail
  rw [show w.alloc (.cells #[.bool fin, .int .i64 8, .bool msk, .int .u8 (m 0 : Nat), .int .u8 (m 1 : Nat), .int .u8 (m 2 : Nat), .int .u8 (m 3 : Nat), .string pay] 24) = w0 from HW0.out.symm, ← HW1.out, ← HGF.out, ← HGI.out]
  have hT1 : Tabs w1 := by
    rw [HW1.out, HW0.out]
    exact (HT.out.bel ((Below.refl _ _).alloc (Nat.le_refl _) _)).bel ((Below.refl _ _).alloc (Nat.le_refl _) _)
  have CL := Lib.hid (closed_any pay hz w1 hT1)
  rw [HR.out] at CL
  clear hT1 HR
  go_wp2_with fail
  refine CL.out.mono ?_
  rintro e w2 ⟨b2, he⟩
  have HI2 := Lib.hid (HI.out.bel b2)
  dsimp only at he
  subst he
  clear b2 HI HT CL z0 z1 z4
  obtain ⟨w3, hw3⟩ : ∃ x, x = w2.alloc (.cells #[.int .i64 (ik : Nat), .string it, .int .i64 (ic : Nat)] 56) := ⟨_, rfl⟩
  have al3 : Below w2.heap.size w2 w3 := by rw [hw3]; exact (Below.refl _ _).alloc (Nat.le_refl _) _
  have b3 := (show Bk w3 w2.heap.size 56 #[.int .i64 (ik : Nat), .string it, .int .i64 (ic : Nat)] by rw [hw3]; exact Bk.new w2 _ _)
  have HI3 := Lib.hid (HI2.out.bel al3)
  have CE := Lib.hid (end_any gr _ _ _ _ _ w3 HI3.out.rd)
  have HB3 := Lib.hid b3
  obtain ⟨g6, hg6⟩ : ∃ g, g = w2.heap.size := ⟨_, rfl⟩
  have H6 := Lib.hid (show gr ≠ g6 by rw [hg6]; have := HI2.out.rd.lt; omega)
  have HG6 := Lib.hid hg6
  rw [← hg6] at HB3
  have HW3 := Lib.hid hw3
  clear hw3 al3 b3 hg6
  unfold itV
  dsimp only
  go_upto_region 4 with fail
  rw [← HW3.out, ← HG6.out]
  go_wp2_with fail
  refine CE.out.mono ?_
  rintro e w4 ⟨rfl, hE, hk⟩
  have HK4 := Lib.hid (HI3.out.kq.trans hk)
  have HE4 := Lib.hid hE
  have hgi := its_it HI3.out
  have h4 := bk_kept HI3.out.it (Ne.symm (Nat.ne_of_lt hgi.1)) hk.kept
  have h6 := bk_kept HB3.out (Ne.symm H6.out) hk.kept
  have H4 := Lib.hid h4
  have HGI2 := Lib.hid hgi
  have f0 := h4.frozen 0
  have f1 := h4.frozen 1
  have f2 := h4.frozen 2
  have y0 := h4.cell 0
  have y1 := h4.cell 1
  have y2 := h4.cell 2
  have x0 := h6.cell 0
  have x1 := h6.cell 1
  have x2 := h6.cell 2
  clear hE hk h4 h6 hgi
  go_wp2_with fail
  have FB := box3 H4.out (.int .i64 (ik : Nat)) (.string it) (.int .i64 (ic : Nat))
  have r0 := FB.cell 0
  have r1 := FB.cell 1
  have r2 := FB.cell 2
  have hne : ¬ gr = gi := Nat.ne_of_lt HGI2.out.1
  exact bodyPost_ret (v := .tuple #[itV ⟨ik, it, ic⟩, .bool true]) (by simp [results, Tryd.results43, go_sem, r0, r1, r2, itV]) rfl
    ⟨kq3 HK4.out HGI2.out.2 HGI2.out.1 _ _ _, rfl, ((HE4.out.far (p := ⟨gi, 0, none⟩) hne _).far (p := ⟨gi, 1, none⟩) hne _).far (p := ⟨gi, 2, none⟩) hne _⟩
end Go.Proofs.YtnbhgjionpidnaaDoor
