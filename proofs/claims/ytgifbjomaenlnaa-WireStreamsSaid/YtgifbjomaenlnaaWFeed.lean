/- Feed: some bytes more. Condition: the bytes and the stream lie in memory. -/
import Derived.Test.YtgifbjomaenlnaaWKeep
import Derived.Test.YtgifbjomaenlnaaWMsgs
namespace Go.Proofs.Ytgifbjomaenlnaa
open Go.RowKit

theorem Seg.grown {w w' : World} {A : Option Addr} {xs : List Value} {row : Option Nat} (h : Seg w A xs) (k : w.grownBy w' row) (ha : ∀ a, A = some a → row ≠ some a.block) : Seg w' A xs := fun hn => by
  obtain ⟨b, off, rfl, hl, hc⟩ := h hn
  refine ⟨b, off, rfl, Nat.lt_of_lt_of_le hl k.size, fun i hi => ?_⟩
  rw [World.cell?_of_block (w := w) (a := ⟨b, off + i, none⟩) (k.block b hl (fun e => ha _ rfl e.symm))]
  exact hc i hi
theorem info_msg : (Try.prog.info? 24).map (fun i => (i.zero, i.size, i.bytes)) = some (some (.agg zMsg), 10, 96) := by kernel_rfl
theorem mqV_one (l : List Mq) : ∀ u ∈ mqV l, u.oneCell' = true := by
  induction l with
  | nil => intro u hu; cases hu
  | cons q l ih =>
    intro u hu
    rcases List.mem_append.1 hu with hu | hu
    · simp only [Mq.v, List.mem_cons, List.not_mem_nil, or_false] at hu
      rcases hu with rfl | rfl | rfl | rfl | rfl | rfl | rfl | rfl | rfl | rfl <;> rfl
    · exact ih u hu
/-- Where the loop stands: the messages so far, the bytes that are left. -/
structure FdS (w0 : World) (l : List Nat) (L : List Mq) (V : Value) (A : Option Addr) (c : Nat) (w : World) : Prop where
  bel : Below w0.heap.size w0 w
  own : w.ownsRow w0.heap.size 24 10 V L.length (mqV L)
  ms : ∀ q ∈ L, Mg w q.m q.A q.n q.c ∧ ∀ a, q.A = some a → w0.heap.size ≤ a.block ∧ (q.m.ents ≠ [] → a.block < w.heap.size ∧ V.ownBlock ≠ some a.block)
  sl : Seg w A (u8s l)
  sa : ∀ a, A = some a → w0.heap.size ≤ a.block ∧ a.block < w.heap.size ∧ V.ownBlock ≠ some a.block
  lc : l.length ≤ c
section
variable {w0 w w' : World} {l : List Nat} {L : List Mq} {V : Value} {A : Option Addr} {c : Nat}
theorem FdS.next (h : FdS w0 l L V A c w) (hb : Below w.heap.size w w') : FdS w0 l L V A c w' :=
  ⟨h.bel.trans (hb.mono h.bel.size), own_belS h.own hb, fun q hq => ⟨(h.ms q hq).1.bel hb, fun a e => ⟨((h.ms q hq).2 a e).1, fun hn => ⟨Nat.lt_of_lt_of_le (((h.ms q hq).2 a e).2 hn).1 hb.size, (((h.ms q hq).2 a e).2 hn).2⟩⟩⟩, h.sl.bel hb, fun a e => ⟨(h.sa a e).1, Nat.lt_of_lt_of_le (h.sa a e).2.1 hb.size, (h.sa a e).2.2⟩, h.lc⟩
theorem FdS.cut (h : FdS w0 l L V A c w) {s : Nat} (hs : s ≤ l.length) : FdS w0 (l.drop s) L V (if c = s then A else A.map (·.add s)) (c - s) w := by
  have hc := h.lc
  refine ⟨h.bel, h.own, h.ms, ?_, fun a e => ?_, by rw [List.length_drop]; omega⟩
  · have := h.sl.cut s c (by rw [u8s_length]; exact hc)
    rw [show (u8s l).drop s = u8s (l.drop s) by simp [u8s, List.map_drop]] at this
    exact this
  · split at e
    · exact h.sa a e
    · rcases A with _ | b
      · cases e
      · simp only [Option.map_some, Option.some.injEq] at e
        subst e
        have := h.sa b rfl
        have hb : (b.add s).block = b.block := by unfold Addr.add; split <;> rfl
        rw [hb]
        exact this
theorem FdS.app (h : FdS w0 l L V A c w) {q : Mq} {V' : Value} (hown : w'.ownsRow w0.heap.size 24 10 V' (L.length + 1) (mqV L ++ q.v)) (hgr : w.grownBy w' V.ownBlock) (hat : V'.ownBlock = V.ownBlock ∨ V'.ownBlock = some w.heap.size)
    (hq : Mg w q.m q.A q.n q.c) (hqa : ∀ a, q.A = some a → w0.heap.size ≤ a.block ∧ (q.m.ents ≠ [] → a.block < w.heap.size ∧ V.ownBlock ≠ some a.block)) : FdS w0 l (L ++ [q]) V' A c w' := by
  have hz := h.bel.size
  have hb : Below w0.heap.size w w' := (Below.refl _ w).grown hgr hz (fun j e => (h.own.lt j e).1)
  have hne : ∀ {x : Nat}, x < w.heap.size → V.ownBlock ≠ some x → V'.ownBlock ≠ some x := fun {x} hx hv e => by
    rcases hat with h1 | h1
    · rw [h1] at e; exact hv e
    · rw [h1] at e
      injection e with e
      omega
  have keep : ∀ q' : Mq, Mg w q'.m q'.A q'.n q'.c → (∀ a, q'.A = some a → w0.heap.size ≤ a.block ∧ (q'.m.ents ≠ [] → a.block < w.heap.size ∧ V.ownBlock ≠ some a.block)) → Mg w' q'.m q'.A q'.n q'.c ∧ ∀ a, q'.A = some a → w0.heap.size ≤ a.block ∧ (q'.m.ents ≠ [] → a.block < w'.heap.size ∧ V'.ownBlock ≠ some a.block) := fun q' hm ha =>
    ⟨⟨hm.en, by
      by_cases hn : q'.m.ents = []
      · rw [hn]; exact Seg.nil _ _
      · exact hm.es.grown hgr (fun a e => ((ha a e).2 hn).2), hm.nc, hm.bn, hm.bk, hm.bm, hm.be⟩, fun a e => ⟨(ha a e).1, fun hn => ⟨Nat.lt_of_lt_of_le ((ha a e).2 hn).1 hgr.size, hne ((ha a e).2 hn).1 ((ha a e).2 hn).2⟩⟩⟩
  refine ⟨h.bel.trans hb, ?_, fun q' hq' => ?_, h.sl.grown hgr (fun a e => (h.sa a e).2.2), fun a e => ⟨(h.sa a e).1, Nat.lt_of_lt_of_le (h.sa a e).2.1 hgr.size, hne (h.sa a e).2.1 (h.sa a e).2.2⟩, h.lc⟩
  · rw [mqV_append, List.length_append]
    rw [show mqV [q] = q.v by simp [mqV]]
    exact hown
  · rcases List.mem_append.1 hq' with hq' | hq'
    · exact keep q' (h.ms q' hq').1 (h.ms q' hq').2
    · simp only [List.mem_singleton] at hq'
      subst hq'
      exact keep _ hq hqa
end
def sliceLen : Value → Nat
  | .slice _ n _ => n
  | _ => 0
/-- What a stream comes to by some bytes more. -/
def feedN (l0 : List Nat) (e0 : Nat) (b : List Nat) : List MsgM × List Nat × Nat :=
  if e0 = 0 then ((run (l0 ++ b)).1, (if firstE (run (l0 ++ b)).2 = 0 then (run (l0 ++ b)).2 else []), firstE (run (l0 ++ b)).2) else ([], l0, e0)
/-- What Feed comes to. -/
def FeedPost (w0 : World) (g : Nat) (l0 : List Nat) (e0 : Nat) (b : List Nat) (e : Ending) (w' : World) : Prop :=
  (∃ AM c L, e = .returned (.tuple #[.slice AM L.length c, .int .i64 (((feedN l0 e0 b).2.2 : Nat) : Int)]) ∧ L.map Mq.m = (feedN l0 e0 b).1 ∧ L.length ≤ c ∧ Seg w' AM (mqV L) ∧ (∀ a, AM = some a → w0.heap.size ≤ a.block) ∧ (∀ q ∈ L, Mg w' q.m q.A q.n q.c ∧ ∀ a, q.A = some a → w0.heap.size ≤ a.block)) ∧
    StW w' g (feedN l0 e0 b).2.1 (feedN l0 e0 b).2.2 ∧ KQ g w0 w' ∧ ∀ A n c x, Bk w' g 42 #[.slice A n c, x] → (∃ x', Bk w0 g 42 #[.slice A n c, x']) ∨ ∀ a, A = some a → w0.heap.size ≤ a.block
theorem run_len : ∀ l : List Nat, (run l).1.length * 2 + (run l).2.length ≤ l.length := by
  intro l
  refine run_ind (P := fun l => (run l).1.length * 2 + (run l).2.length ≤ l.length) (fun l h => ?_) (fun l m s h ih => ?_) l
  · rw [run_none h]; simp
  · have := first_pos h
    rw [run_some h]
    rw [List.length_drop] at ih
    simp only [List.length_cons]
    omega
set_option maxRecDepth 100000 in
set_option maxHeartbeats 4000000 in
theorem feed_any (g : Nat) (l0 : List Nat) (e0 : Nat) (B : Option Addr) (n c : Nat) (b : List Nat) (hn : n = b.length) (_hnc : n ≤ c) (hz0 : l0.length ≤ 20000) (hz : n ≤ 20000) (hl0 : ∀ x ∈ l0, x < 256) (hlb : ∀ x ∈ b, x < 256) (w : World) (h : StW w g l0 e0) (hB : Seg w B (u8s b)) :
    Calls Try.prog 18 #[.pointer (some ⟨g, 0, none⟩), .slice B n c] w (FeedPost w g l0 e0 b) := by
  obtain ⟨A0, c0, hb, hc0, hs0, ha0⟩ := id h
  obtain ⟨n0, hn0⟩ : ∃ n0, n0 = l0.length := ⟨_, rfl⟩
  rw [← hn0] at hb hz0 hc0
  have y0 : w.cell? ⟨g, 0, none⟩ = some (.slice A0 n0 c0) := hb.cell 0
  have y1 : w.cell? ⟨g, 1, none⟩ = some (.int .i64 (e0 : Int)) := hb.cell 1
  by_cases he : e0 = 0
  · subst he
    have y1 : w.cell? ⟨g, 1, none⟩ = some (.int .i64 0) := y1
    have HLT := Lib.hid hb.lt
    obtain ⟨w1, hw1⟩ : ∃ w1, w1 = w.alloc (.cells #[.slice A0 n0 c0, .slice B n c] 26) := ⟨_, rfl⟩
    have hb1 : Below w.heap.size w w1 := by rw [hw1]; exact (Below.refl _ _).alloc (Nat.le_refl _) _
    have C1 := concat_any w.heap.size A0 B n0 n c0 c l0 b hn0 hn (by omega) (by omega) w1 (by rw [hw1]; exact Bk.new w _ _) (hs0.bel hb1) (hB.bel hb1)
    rw [hw1] at C1
    have HST := Lib.hid h
    have C1 := Lib.hid C1
    have HLB := Lib.hid (show ∀ x ∈ l0 ++ b, x < 256 from fun x hx => by
      rcases List.mem_append.1 hx with hx | hx
      · exact hl0 x hx
      · exact hlb x hx)
    have HLL := Lib.hid (show n0 + n = (l0 ++ b).length by rw [List.length_append, ← hn0, ← hn])
    obtain ⟨lb, hlbd⟩ : ∃ lb, lb = l0 ++ b := ⟨_, rfl⟩
    rw [← hlbd] at HLB HLL C1
    have HLBD := Lib.hid hlbd
    have HLE := Lib.hid (show lb.length ≤ 40000 by rw [← HLL.out]; omega)
    have HB1 := Lib.hid (show Below w.heap.size w (w.alloc (.cells #[.slice A0 n0 c0, .slice B n c] 26)) from (Below.refl _ _).alloc (Nat.le_refl _) _)
    clear hb hc0 hs0 ha0 hn0 hn hb1 hw1 h hB hl0 hlb hlbd
    go_enter Try.func18, Try.ntmps18
    go_wp2_with fail
    refine C1.out.mono ?_
    rintro e w2 ⟨v, rfl, hown, hb2⟩
    obtain ⟨A, c2, rfl, hc2, hs2⟩ := own_shape hown
    have hsz2 := HB1.out.size
    have HF := Lib.hid (show FdS w lb [] (.slice none 0 0) A c2 w2 from
      ⟨HB1.out.trans (hb2.mono hsz2), World.ownsRow_nil _ _ _ _, fun q hq => absurd hq List.not_mem_nil, hs2, fun a e => ⟨Nat.le_trans hsz2 (own_fresh hown a e), own_lt_slice hown e, fun h => by cases h⟩, by rw [← HLL.out]; exact hc2⟩)
    clear C1 hown hb2 hs2 hsz2 hc2 y0 y1 HB1
    go_wp2_with fail
    go_loopw [6, 7] (fun V T wr => ∃ (L : List Mq) (A : Option Addr) (n c : Nat) (l : List Nat), T = .slice A n c ∧ n ≤ 40000 ∧ n ≤ c ∧ Hid (n = l.length) ∧ Hid (FdS w l L V A c wr) ∧ Hid (run lb = (L.map Mq.m ++ (run l).1, (run l).2) ∧ ∀ x ∈ l, x < 256)) (fun _ T _ => sliceLen T)
    case atStart => exact ⟨[], A, n0 + n, c2, lb, rfl, by omega, by have := HF.out.lc; rw [← HLL.out] at this; exact this, HLL, HF, Lib.hid ⟨rfl, HLB.out⟩⟩
    case round =>
      clear HF
      obtain ⟨L, A, n, c, l, rfl, hn4, hnc, HN, HF, HR⟩ := hrel
      have HLN := Lib.hid (show L.length ≤ 40000 by
        have h1 := run_len lb
        rw [HR.out.1] at h1
        have := HLE.out
        simp only [List.length_append, List.length_map] at h1
        omega)
      obtain ⟨AV, cV, rfl, hcV, hsV, hfV⟩ := rowz_shape HF.out.own
      have C1 := first_any A n c l HN.out hnc (by omega) HR.out.2 wr HF.out.sl
      cases hf : firstN l with
      | none =>
        unfold FirstPost at C1
        rw [hf] at C1
        have C1 := Lib.hid C1
        have HFN := Lib.hid hf
        obtain ⟨fe, hfe⟩ : ∃ fe, fe = firstE l := ⟨_, rfl⟩
        rw [← hfe] at C1
        have HFE := Lib.hid hfe
        clear hf hfe hsV hfV
        unfold zMsg at C1
        go_wp2_with fail
        refine C1.out.mono ?_
        rintro e w3 ⟨hb3, he⟩
        have he : e = .returned (.tuple #[.agg #[.int .i64 0, .int .i64 0, .int .i64 0, .int .i64 0, .int .i64 0, .int .i64 0, .int .i64 0, .slice none 0 0, .bool false, .int .i64 0], .int .i64 0, .int .i64 (fe : Int)]) := he
        subst he
        have hb4 : Below wr.heap.size wr (w3.alloc (.cells #[.int .i64 0, .int .i64 0, .int .i64 0, .int .i64 0, .int .i64 0, .int .i64 0, .int .i64 0, .slice none 0 0, .bool false, .int .i64 0] 24)) := hb3.alloc hb3.size _
        have HF4 := Lib.hid (HF.out.next hb4)
        have C2 := Lib.hid (keep_any g l0 0 A n c l fe HN.out hnc (by omega) (w3.alloc (.cells #[.int .i64 0, .int .i64 0, .int .i64 0, .int .i64 0, .int .i64 0, .int .i64 0, .int .i64 0, .slice none 0 0, .bool false, .int .i64 0] 24)) (HST.out.bel HF4.out.bel) HF4.out.sl (fun a e => by have := (HF4.out.sa a e).1; have := HLT.out; omega))
        clear hb3 hb4 C1
        go_wp2_with fail
        refine C2.out.mono ?_
        rintro e w5 ⟨rfl, hst, hkq, hlf⟩
        have HLF := Lib.hid (show ∀ A n c x, Bk w5 g 42 #[.slice A n c, x] → (∃ x', Bk w g 42 #[.slice A n c, x']) ∨ ∀ a, A = some a → w.heap.size ≤ a.block from fun A' n' c' x hb' => Or.inr (fun a e => Nat.le_trans HF4.out.bel.size (hlf A' n' c' x hb' a e)))
        have HK5 := Lib.hid ((KQ.of_below HLT.out HF4.out.bel).trans hkq)
        have HST5 := Lib.hid hst
        have HS5 := Lib.hid (fun (A' : Option Addr) (xs : List Value) (hs : Seg (w3.alloc (.cells #[.int .i64 0, .int .i64 0, .int .i64 0, .int .i64 0, .int .i64 0, .int .i64 0, .int .i64 0, .slice none 0 0, .bool false, .int .i64 0] 24)) A' xs) (ha : ∀ a, A' = some a → w.heap.size ≤ a.block) => hs.kept hkq.kept (fun a e => by have := ha a e; have := HLT.out; omega))
        clear hst hkq hlf C2
        go_wp2_with fail
        refine bodyPost_ret (v := .tuple #[.slice AV L.length cV, .int .i64 (fe : Int)]) (by simp [results, Try.results18, go_sem]) rfl ?_
        obtain ⟨_, _, e1, _, hsV, hfV⟩ := rowz_shape HF4.out.own
        injection e1 with e1 e2 e3
        subst e1
        subst e3
        have hrun : run lb = (L.map Mq.m, l) := by rw [HR.out.1, run_none HFN.out, List.append_nil]
        have hfd : feedN l0 0 b = (L.map Mq.m, (if fe = 0 then l else []), fe) := by
          unfold feedN
          rw [if_pos rfl, ← HLBD.out, hrun]
          simp only [← HFE.out]
        unfold FeedPost
        rw [hfd]
        refine ⟨⟨AV, cV, L, rfl, rfl, hcV, HS5.out _ _ hsV hfV, hfV, fun q hq => ?_⟩, HST5.out, HK5.out, HLF.out⟩
        have hm := HF4.out.ms q hq
        exact ⟨⟨hm.1.en, HS5.out _ _ hm.1.es (fun a e => (hm.2 a e).1), hm.1.nc, hm.1.bn, hm.1.bk, hm.1.bm, hm.1.be⟩, fun a e => (hm.2 a e).1⟩
      | some p =>
        obtain ⟨m, s⟩ := p
        unfold FirstPost at C1
        rw [hf] at C1
        have C1 := Lib.hid C1
        have hp := first_pos hf
        have HFN := Lib.hid hf
        have hsn : s ≤ n := by rw [HN.out]; exact hp.2
        have hs2 : 2 ≤ s := hp.1
        have hs0 : ((s : Int) == 0) = false := by rw [beq_eq_false_iff_ne]; omega
        clear hf hp hsV hfV
        go_wp2_with fail
        refine C1.out.mono ?_
        rintro e w3 ⟨hb3, A2, c2, rfl, hmg, hfr⟩
        unfold msgC
        have hX3 := Bk.new w3 24 #[.int .i64 m.kind, .int .i64 m.n0, .int .i64 m.n1, .int .i64 m.n2, .int .i64 m.n3, .int .i64 m.n4, .int .i64 m.n5, .slice A2 m.ents.length c2, .bool m.ok, .int .i64 m.n6]
        obtain ⟨w4, hw4⟩ : ∃ w4, w4 = w3.alloc (.cells #[.int .i64 m.kind, .int .i64 m.n0, .int .i64 m.n1, .int .i64 m.n2, .int .i64 m.n3, .int .i64 m.n4, .int .i64 m.n5, .slice A2 m.ents.length c2, .bool m.ok, .int .i64 m.n6] 24) := ⟨_, rfl⟩
        have hb4 : Below w3.heap.size w3 w4 := by rw [hw4]; exact (Below.refl _ _).alloc (Nat.le_refl _) _
        rw [← hw4] at hX3
        have HF4 := HF.out.next (hb3.trans (hb4.mono hb3.size))
        obtain ⟨w5, hw5⟩ : ∃ w5, w5 = w4.alloc (.cells #[.int .i64 m.kind, .int .i64 m.n0, .int .i64 m.n1, .int .i64 m.n2, .int .i64 m.n3, .int .i64 m.n4, .int .i64 m.n5, .slice A2 m.ents.length c2, .bool m.ok, .int .i64 m.n6] 24) := ⟨_, rfl⟩
        have hb5 : Below w4.heap.size w4 w5 := by rw [hw5]; exact (Below.refl _ _).alloc (Nat.le_refl _) _
        have HF5 := Lib.hid (HF4.next hb5)
        have hX5 : Bk w5 w4.heap.size 24 #[.int .i64 m.kind, .int .i64 m.n0, .int .i64 m.n1, .int .i64 m.n2, .int .i64 m.n3, .int .i64 m.n4, .int .i64 m.n5, .slice A2 m.ents.length c2, .bool m.ok, .int .i64 m.n6] := by rw [hw5]; exact Bk.new w4 _ _
        have hmg5 := (hmg.bel hb4).bel hb5
        obtain ⟨j0, hj0, hj1, hj2, hj3⟩ := info_parts info_msg
        have hadd : ∀ b j : Nat, ((⟨b, 0, none⟩ : Addr).add j) = ⟨b, j, none⟩ := fun b j => by unfold Addr.add; split <;> simp_all
        obtain ⟨V6, w6, hrun, hown6, hgr6, _, hat6⟩ := run_append_own_at (P := Try.prog) (w := w5) w.heap.size 43 43 24 j0 (.agg zMsg) 10 96 Try.underlying43 hj0 hj1 hj2 hj3 rfl (by decide) (.slice AV L.length cV) L.length (mqV L) HF5.out.own ⟨w4.heap.size, 0, none⟩ 1 1 (Mq.v ⟨m, A2, m.ents.length, c2⟩) rfl (fun j u hu => by rw [hadd, hX5.cell j]; simpa [Mq.v] using hu) (by
          have := mqV_one [⟨m, A2, m.ents.length, c2⟩]
          simpa [mqV] using this) (by have := HLN.out; simp only [maxLen]; omega) (by have := HLN.out; omega) HF5.out.bel.size
        have HF6 := Lib.hid (HF5.out.app (q := ⟨m, A2, m.ents.length, c2⟩) hown6 hgr6 hat6 hmg5 (fun a e => by
          have h1 := hfr a e
          have h2 := HF.out.bel.size
          refine ⟨by omega, fun hn => ⟨?_, fun hv => ?_⟩⟩
          · obtain ⟨b', off', e', hl', _⟩ := hmg5.es (by
              intro h0
              have := entV_length m.ents
              rw [h0] at this
              simp only [List.length_nil] at this
              exact hn (List.eq_nil_of_length_eq_zero (show m.ents.length = 0 by omega)))
            rw [show A2 = some ⟨b', off', none⟩ from e'] at e
            injection e with e
            subst e
            exact hl'
          · have := (HF.out.own.lt _ hv).2
            omega))
        have HRUN := Lib.hid hrun
        obtain ⟨A7, hA7⟩ : ∃ A7, A7 = if c = s then A else A.map (·.add s) := ⟨_, rfl⟩
        have HF7 := Lib.hid (show FdS w (l.drop s) (L ++ [⟨m, A2, m.ents.length, c2⟩]) V6 A7 (c - s) w6 by rw [hA7]; exact HF6.out.cut (by rw [← HN.out]; exact hsn))
        have hsl : ∀ w : World, (Instr.sliceAt 26 (.slice A n c) (some (.int .i64 (s : Int))) none none).run Try.prog w = .ok (.slice A7 (n - s) (c - s)) w := fun w => by
          have hu : Try.prog.underlying 26 = some (.slice (Try.prog.elem 26)) := by kernel_rfl
          have he : Try.prog.elem 26 = 5 := by kernel_rfl
          obtain ⟨i0, hi0, hz0, hz1, hz2⟩ := info_parts info5
          rw [run_sliceAt_slice (P := Try.prog) w 26 _ _ _ _ hu, run_slice_l (P := Try.prog) w 26 A n c hu .i64 (s : Int) (by omega) (by omega), he]
          have hsz5 : (sizeOf 5).run Try.prog w = .ok 1 w := by simp [sizeOf, typeInfo, hi0, hz1]
          rw [hsz5, hA7]
          simp [Result.andThen, sliced]
        have HR7 := Lib.hid (show run lb = ((L ++ [(⟨m, A2, m.ents.length, c2⟩ : Mq)]).map Mq.m ++ (run (l.drop s)).1, (run (l.drop s)).2) ∧ ∀ x ∈ l.drop s, x < 256 from ⟨by
          rw [HR.out.1, run_some HFN.out]
          simp, fun x hx => HR.out.2 x (List.mem_of_mem_drop hx)⟩)
        have HN7 := Lib.hid (show n - s = (l.drop s).length by rw [List.length_drop, ← HN.out])
        have HW4 := Lib.hid hw4
        have HW5 := Lib.hid hw5
        have x0 : w4.cell? ⟨w3.heap.size, 0, none⟩ = some (.int .i64 m.kind) := hX3.cell 0
        have x1 : w4.cell? ⟨w3.heap.size, 1, none⟩ = some (.int .i64 m.n0) := hX3.cell 1
        have x2 : w4.cell? ⟨w3.heap.size, 2, none⟩ = some (.int .i64 m.n1) := hX3.cell 2
        have x3 : w4.cell? ⟨w3.heap.size, 3, none⟩ = some (.int .i64 m.n2) := hX3.cell 3
        have x4 : w4.cell? ⟨w3.heap.size, 4, none⟩ = some (.int .i64 m.n3) := hX3.cell 4
        have x5 : w4.cell? ⟨w3.heap.size, 5, none⟩ = some (.int .i64 m.n4) := hX3.cell 5
        have x6 : w4.cell? ⟨w3.heap.size, 6, none⟩ = some (.int .i64 m.n5) := hX3.cell 6
        have x7 : w4.cell? ⟨w3.heap.size, 7, none⟩ = some (.slice A2 m.ents.length c2) := hX3.cell 7
        have x8 : w4.cell? ⟨w3.heap.size, 8, none⟩ = some (.bool m.ok) := hX3.cell 8
        have x9 : w4.cell? ⟨w3.heap.size, 9, none⟩ = some (.int .i64 m.n6) := hX3.cell 9
        clear hb3 hmg hfr hX3 hw4 hb4 HF4 hw5 hb5 hX5 hmg5 hrun hown6 hgr6 hat6 hA7 hadd HF5 HF6 C1
        go_upto_region 6 with fail
        rw [← HW4.out]
        go_upto_region 9 with fail
        have HRUN2 := HRUN.out
        have hh5 := HW5.out
        subst hh5
        have HRUN := Lib.hid HRUN2
        clear HRUN2
        go_wp2_with (at_builtin; refine Lib.wpList_append_run _ rfl (.tmp 41) (.tmp 43) _ _ rfl _ _ rfl rfl _ _ HRUN.out ?_)
        go_roundw
        case rel => exact ⟨_, A7, n - s, c - s, l.drop s, rfl, by omega, by omega, HN7, HF7, HR7⟩
        case measure => simp only [sliceLen]; omega
  · have hfd : feedN l0 e0 b = ([], l0, e0) := by unfold feedN; rw [if_neg he]
    have i1 : ((e0 : Int) != 0) = true := by rw [bne_iff_ne]; omega
    have HST := Lib.hid h
    have HLT := Lib.hid h.lt
    have HFD := Lib.hid hfd
    clear hb hc0 hs0 ha0 h hfd hB hn
    go_enter Try.func18, Try.ntmps18
    go_upto_region 2 with fail
    go_quiet (fail)
    have HK := Lib.hid ((KQ.refl g w).drewN nq)
    have HS2 := Lib.hid (show StW (w.drewN nq) g l0 e0 from HST.out)
    have HLQ := Lib.hid (show ∀ A n c x, Bk (w.drewN nq) g 42 #[.slice A n c, x] → (∃ x', Bk w g 42 #[.slice A n c, x']) ∨ ∀ a, A = some a → w.heap.size ≤ a.block from fun A' n' c' x hb' => Or.inl ⟨x, hb'⟩)
    generalize w.drewN nq = wq at *
    go_wp2_with fail
    refine bodyPost_ret (v := .tuple #[.slice none 0 0, .int .i64 (e0 : Int)]) (by simp [results, Try.results18, go_sem]) rfl ?_
    unfold FeedPost
    rw [HFD.out]
    exact ⟨⟨none, 0, [], rfl, rfl, Nat.le_refl _, Seg.nil _ _, (fun a e => by cases e), (fun q hq => absurd hq List.not_mem_nil)⟩, HS2.out, HK.out, HLQ.out⟩
end Go.Proofs.Ytgifbjomaenlnaa
