/- The writes that keep a commit in the slots, and beside them where each is to go. Conditions: the journal and the blocks lie in memory. -/
import Derived.Test.YtmgbmnbjionapaaJFresh
import Derived.Test.YtmgbmnbjionapaaJPutK
import Derived.Test.YtmgbmnbjionapaaTwo
import Derived.Test.YtmgbmnbjionapaaStableO
import Derived.Deep.AppendLies
namespace Go.Proofs.Ytmgbmnbjionapaa
open Go.RowKit

/-- The targets of the first k blocks. -/
def tgN (ws : List (Nat × List Nat)) (k : Nat) : List Nat := ((ws.take k).flatMap fun x => leN x.1 2) ++ List.replicate (256 - 2 * k) 0
theorem tg_pre : ∀ (l : List (Nat × List Nat)), (l.flatMap fun x => leN x.1 2).length = 2 * l.length
  | [] => rfl
  | x :: l => by
    rw [List.flatMap_cons, List.length_append, leN_length, tg_pre l, List.length_cons]; omega
theorem tgN_length (ws : List (Nat × List Nat)) (k : Nat) (hk : k ≤ ws.length) (h : k ≤ 128) : (tgN ws k).length = 256 := by
  unfold tgN
  rw [List.length_append, tg_pre, List.length_take, List.length_replicate]; omega
theorem tgN_zero (ws : List (Nat × List Nat)) : tgN ws 0 = List.replicate 256 0 := rfl
theorem tgN_split (ws : List (Nat × List Nat)) (k : Nat) (h : k < 128) : tgN ws k = ((ws.take k).flatMap fun x => leN x.1 2) ++ ([0, 0] ++ List.replicate (254 - 2 * k) 0) := by
  unfold tgN
  rw [show 256 - 2 * k = (254 - 2 * k) + 1 + 1 by omega, List.replicate_succ, List.replicate_succ]; rfl
theorem tgN_succ (ws : List (Nat × List Nat)) (k : Nat) (hk : k < ws.length) (_h : k < 128) : tgN ws (k + 1) = ((ws.take k).flatMap fun x => leN x.1 2) ++ (leN (ws[k]).1 2 ++ List.replicate (254 - 2 * k) 0) := by
  unfold tgN
  rw [List.take_succ_eq_append_getElem hk, List.flatMap_append, List.flatMap_cons, List.flatMap_nil, List.append_nil, List.append_assoc, show 256 - 2 * (k + 1) = 254 - 2 * k by omega]
/-- The slots of a commit. -/
def slotsN : Nat → List (Nat × List Nat) → List (Nat × List Nat)
  | _, [] => []
  | i, x :: l => (i, x.2) :: slotsN (i + 1) l
theorem slotsN_length : ∀ (i : Nat) (l : List (Nat × List Nat)), (slotsN i l).length = l.length
  | _, [] => rfl
  | i, _ :: l => by show (slotsN (i + 1) l).length + 1 = _; rw [slotsN_length (i + 1) l]; rfl
theorem slotsN_at : ∀ (i : Nat) (l : List (Nat × List Nat)) (k : Nat) (hk : k < l.length), (slotsN i l)[k]? = some (i + k, (l[k]).2)
  | _, [], k, hk => by simp at hk
  | i, x :: l, 0, _ => rfl
  | i, x :: l, k + 1, hk => by
    have := slotsN_at (i + 1) l k (by simpa using hk)
    show (slotsN (i + 1) l)[k]? = _
    rw [this, show i + 1 + k = i + (k + 1) by omega]; rfl
def areaN (b : Nat) (ws : List (Nat × List Nat)) : List (Nat × List Nat) := (b + 1, tgN ws ws.length) :: slotsN (b + 2) ws
theorem areaN_length (b : Nat) (ws : List (Nat × List Nat)) : (areaN b ws).length = ws.length + 1 := by show (slotsN _ _).length + 1 = _; rw [slotsN_length]
theorem info_bw : (Try.prog.info? 76).map (fun i => (i.zero, i.size, i.bytes)) = some (some (.agg #[.int .i64 0, .slice none 0 0]), 2, 32) := by kernel_rfl
theorem addr_add (g j : Nat) : ((⟨g, 0, none⟩ : Addr).add j) = ⟨g, j, none⟩ := by unfold Addr.add; split <;> simp_all

theorem own_ne {w : World} {base size g n c k : Nat} {e t : TypeId} {xs : List Value} {cs : Array Value} (h : w.ownsRow base e size (.slice (some ⟨g, 0, none⟩) n c) n xs) (hb : Bk w k t cs) (hne : e ≠ t) : g ≠ k := by
  intro hgk
  subst hgk
  rcases h.2 with ⟨hv, _⟩ | ⟨g', cap, cur, hv, _, hgg, _⟩
  · cases hv
  · injection hv with h1
    injection h1 with h1
    injection h1 with h1
    subst h1
    unfold Bk at hb
    rw [hb] at hgg
    injection hgg with hgg
    injection hgg with _ h2
    exact hne h2.symm
/-- What holds throughout a round's last region. -/
structure ArG (w0 : World) (gR gT xb n cap : Nat) (xs : List Value) (TB XB : Array Value) (w : World) : Prop where
  bel : Below w0.heap.size w0 w
  tg : Bk w gT 5 TB
  bx : Bk w xb 76 XB
  lt : gR < w.heap.size
  own : w.ownsRow w0.heap.size 76 2 (.slice (some ⟨gR, 0, none⟩) n cap) n xs
theorem ArG.next {w0 w w' : World} {gR gT xb n cap : Nat} {xs : List Value} {TB XB : Array Value} (h : ArG w0 gR gT xb n cap xs TB XB w) (hb : Below w.heap.size w w') : ArG w0 gR gT xb n cap xs TB XB w' :=
  ⟨below_step h.bel hb, h.tg.bel hb, h.bx.bel hb, Nat.lt_of_lt_of_le h.lt hb.size, own_belS h.own hb⟩
theorem ArG.kept {w0 w w' : World} {gR gT xb n cap : Nat} {xs : List Value} {TB XB : Array Value} (h : ArG w0 gR gT xb n cap xs TB XB w) (hk : Kept2 gR w w') (hb : Below w0.heap.size w w') (h1 : gT ≠ gR) (h2 : xb ≠ gR) (ho : w'.ownsRow w0.heap.size 76 2 (.slice (some ⟨gR, 0, none⟩) n cap) n xs) : ArG w0 gR gT xb n cap xs TB XB w' :=
  ⟨h.bel.trans hb, (hk.block gT h.tg.lt h1).trans h.tg, (hk.block xb h.bx.lt h2).trans h.bx, Nat.lt_of_lt_of_le h.lt hk.size, ho⟩
def arF (B gR n cap q xb i b : Nat) (Ad : Option Addr) (c : Nat) (xs : List Value) (j : Nat) (v _u : Value) (w : World) : Prop := match j with
  | 0 => v = .slice (some ⟨gR, 0, none⟩) n cap
  | 1 => v = .pointer (some ⟨q, 0, none⟩)
  | 2 => v = .int .i64 (i : Int)
  | 3 => v = .int .i64 ((b : Int) + 2 + (i : Int))
  | 4 => v = .pointer (some ⟨xb, 1, none⟩)
  | 5 => v = .slice Ad 256 c
  | 6 => v = .agg #[.int .i64 ((b : Int) + 2 + (i : Int)), .slice Ad 256 c]
  | 7 => ∃ g, v = .slice (some ⟨g, 0, none⟩) 1 1 ∧ g ≠ gR ∧ Bk w g 76 #[.int .i64 ((b : Int) + 2 + (i : Int)), .slice Ad 256 c]
  | 8 => w.ownsRow B 76 2 v (n + 1) (xs ++ [.int .i64 ((b : Int) + 2 + (i : Int)), .slice Ad 256 c])
  | 9 => w.ownsRow B 76 2 v (n + 1) (xs ++ [.int .i64 ((b : Int) + 2 + (i : Int)), .slice Ad 256 c])
  | _ => True
theorem arF_bel {B gR n cap q xb i b : Nat} {Ad : Option Addr} {c : Nat} {xs : List Value} {w w' : World} (hb : Below w.heap.size w w') : ∀ j u u', arF B gR n cap q xb i b Ad c xs j u u' w → arF B gR n cap q xb i b Ad c xs j u u' w' := by
  intro j u u' h
  unfold arF at *
  split at h <;> first | exact h | exact own_belS h hb | skip
  · obtain ⟨g, hv, hg, hc⟩ := h
    exact ⟨g, hv, hg, hc.bel hb⟩
theorem arF_kept {B gR n cap q xb i b : Nat} {Ad : Option Addr} {c : Nat} {xs : List Value} {w w' : World} (hk : Kept2 gR w w') : ∀ j, j ≠ 8 → j ≠ 9 → ∀ u u', arF B gR n cap q xb i b Ad c xs j u u' w → arF B gR n cap q xb i b Ad c xs j u u' w' := by
  intro j h8 h9 u u' h
  unfold arF at *
  split at h <;> first | exact h | exact absurd rfl h8 | exact absurd rfl h9 | skip
  · obtain ⟨g, hv, hg, hc⟩ := h
    exact ⟨g, hv, hg, (hk.block g hc.lt hg).trans hc⟩
/-- The cells of the row behind k rounds. -/
def ArX (w0 : World) (S : Nat → Prop) (b : Nat) (ws : List (Nat × List Nat)) (gT k : Nat) (xs : List Value) : Prop :=
  xs[0]? = some (.int .i64 ((b : Int) + 1)) ∧ xs[1]? = some (.slice (some ⟨gT, 0, none⟩) 256 256) ∧ ∀ j (hj : j < ws.length), j < k → xs[(j + 1) * 2]? = some (.int .i64 ((b : Int) + 2 + (j : Int))) ∧
    ∃ Ad c, xs[(j + 1) * 2 + 1]? = some (.slice Ad 256 c) ∧ Seg w0 Ad (u8s (ws[j]).2) ∧ ∀ a, Ad = some a → ¬ S a.block ∧ a.block < w0.heap.size
theorem ArX.succ {w0 : World} {S : Nat → Prop} {b : Nat} {ws : List (Nat × List Nat)} {gT k : Nat} {xs : List Value} (h : ArX w0 S b ws gT k xs) (hl : xs.length = (k + 1) * 2) (hk : k < ws.length) (Ad : Option Addr) (c : Nat) (hs : Seg w0 Ad (u8s (ws[k]).2)) (hA : ∀ a, Ad = some a → ¬ S a.block ∧ a.block < w0.heap.size) :
    ArX w0 S b ws gT (k + 1) (xs ++ [.int .i64 ((b : Int) + 2 + (k : Int)), .slice Ad 256 c]) := by
  obtain ⟨h0, h1, h2⟩ := h
  refine ⟨?_, ?_, fun j hj hjk => ?_⟩
  · rw [List.getElem?_append_left (by omega)]; exact h0
  · rw [List.getElem?_append_left (by omega)]; exact h1
  · by_cases e : j = k
    · subst e
      refine ⟨?_, Ad, c, ?_, hs, hA⟩
      · rw [List.getElem?_append_right (by omega), hl, Nat.sub_self]; rfl
      · rw [List.getElem?_append_right (by omega), hl, show (j + 1) * 2 + 1 - (j + 1) * 2 = 1 by omega]; rfl
    · obtain ⟨q1, Ad', c', q2, q3, q4⟩ := h2 j hj (by omega)
      refine ⟨?_, Ad', c', ?_, q3, q4⟩
      · rw [List.getElem?_append_left (by omega)]; exact q1
      · rw [List.getElem?_append_left (by omega)]; exact q2
/-- The loop's relation. -/
structure ArR (w0 : World) (S : Nat → Prop) (b : Nat) (ws : List (Nat × List Nat)) (gT k : Nat) (V : Value) (w : World) : Prop where
  bel : Below w0.heap.size w0 w
  tg : Bk w gT 5 (u8s (tgN ws k)).toArray
  row : ∃ gR cap xs, V = .slice (some ⟨gR, 0, none⟩) (k + 1) cap ∧ gR ≠ gT ∧ gR < w.heap.size ∧ w.ownsRow w0.heap.size 76 2 (.slice (some ⟨gR, 0, none⟩) (k + 1) cap) (k + 1) xs ∧ ArX w0 S b ws gT k xs
theorem ArR.done {w0 : World} {S : Nat → Prop} {b : Nat} {ws : List (Nat × List Nat)} {gT : Nat} {V : Value} {w : World} (h : ArR w0 S b ws gT ws.length V w) (hS : ∀ i, S i → i < w0.heap.size) (hT : w0.heap.size ≤ gT) : ∃ A c, V = .slice A (ws.length + 1) c ∧ WsAt w S A (areaN b ws) := by
  obtain ⟨gR, cap, xs, rfl, _, hlt, ho, h0, h1, h2⟩ := h.row
  have hge : w0.heap.size ≤ gR := by
    obtain ⟨g, cap, hv, hb, _⟩ := ho.form (by omega)
    injection hv with e; injection e with e; injection e with e; subst e; exact hb
  have hc : ∀ j u, xs[j]? = some u → w.cell? ⟨gR, 0 + j, none⟩ = some u := fun j u hu => by
    have := ho.cells (g := gR) rfl j u hu
    rw [addr_add] at this; rw [Nat.zero_add]; exact this
  refine ⟨_, _, rfl, ⟨fun k hk => ?_⟩⟩
  rw [areaN_length] at hk
  cases k with
  | zero =>
    refine ⟨gR, 0, some ⟨gT, 0, none⟩, 256, rfl, hlt, fun hs => by have := hS _ hs; omega, ?_, ?_, Seg.of_block h.tg (fun i hi => by show _ = (u8s (tgN ws ws.length))[i]?; simp), fun a e => ?_⟩
    · have := hc 0 _ h0; simpa [areaN] using this
    · exact hc 1 _ h1
    · injection e with e; subst e
      exact ⟨fun hs => by have := hS _ hs; simp only at this; omega, h.tg.lt⟩
  | succ k =>
    have hk' : k < ws.length := by omega
    obtain ⟨q1, Ad, c, q2, q3, q4⟩ := h2 k hk' hk'
    have e := slotsN_at (b + 2) ws k hk'
    have e2 : (areaN b ws)[k + 1]? = some (b + 2 + k, (ws[k]).2) := e
    have e3 : (areaN b ws)[k + 1]'(by rw [areaN_length]; omega) = (b + 2 + k, (ws[k]).2) := by
      have := List.getElem?_eq_getElem (l := areaN b ws) (i := k + 1) (by rw [areaN_length]; omega)
      rw [this] at e2; exact Option.some.inj e2
    rw [e3]
    refine ⟨gR, 0, Ad, c, rfl, hlt, fun hs => by have := hS _ hs; omega, ?_, ?_, q3.bel h.bel, fun a e => ⟨(q4 a e).1, Nat.lt_of_lt_of_le (q4 a e).2 h.bel.size⟩⟩
    · have := hc _ _ q1; rw [this]; simp
    · exact hc _ _ q2
set_option maxRecDepth 100000 in
set_option maxHeartbeats 4000000 in
theorem inarea_any (q p b s : Nat) (S : Nat → Prop) (A : Option Addr) (n c : Nat) (ws : List (Nat × List Nat)) (w : World) (hJ : Bk w q 101 (JrC p b s)) (hn : n = ws.length) (hn2 : n ≤ 60) (hb : b ≤ 10000) (hS : ∀ i, S i → i < w.heap.size) (hW : WsAt w S A ws) (hok : ∀ x ∈ ws, x.1 < 65536) :
    Calls Try.prog 62 #[.pointer (some ⟨q, 0, none⟩), .slice A n c] w fun e w' => ∃ A' c', e = .returned (.slice A' (n + 1) c') ∧ WsAt w' S A' (areaN b ws) ∧ Below w.heap.size w w' := by
  obtain ⟨i0, hi0, hz0, hz1, hzb⟩ := info_parts info_bw
  have hmk : ∀ w : World, (Instr.makeSlice 26 (.int .i64 256) (.int .i64 256)).run Try.prog w = .ok (.slice (some ⟨w.heap.size, 0, none⟩) 256 256) (w.alloc (.cells (madeCells #[.int .u8 0] 256) 5)) := make_bytes 256 (by omega)
  have j1 := hJ.cell 1
  simp only [JrC, List.getElem?_toArray, List.getElem?_cons_zero, List.getElem?_cons_succ] at j1
  obtain ⟨w1, hw1⟩ : ∃ w1, w1 = w.alloc (.cells (madeCells #[.int .u8 0] 256) 5) := ⟨_, rfl⟩
  have B1 : Below w.heap.size w w1 := by rw [hw1]; exact (Below.refl _ _).alloc (Nat.le_refl _) _
  have T1 : Bk w1 w.heap.size 5 (u8s (tgN ws 0)).toArray := by rw [hw1, tgN_zero]; exact bk_zeros w 256
  have J1 := (hJ.bel B1).cell 1
  simp only [JrC, List.getElem?_toArray, List.getElem?_cons_zero, List.getElem?_cons_succ] at J1
  have hb1 : IntKind.i64.wrap ((b : Int) + 1) = (b : Int) + 1 := IntWalk.i64_in _ ⟨by omega, by omega⟩
  have hb2 : wrap64 ((b : Int) + 1) = (b : Int) + 1 := IntWalk.wrap64_in _ ⟨by omega, by omega⟩
  obtain ⟨w2, hw2⟩ : ∃ w2, w2 = w1.alloc (.cells #[.int .i64 ((b : Int) + 1), .slice (some ⟨w.heap.size, 0, none⟩) 256 256] 76) := ⟨_, rfl⟩
  have hsz1 : w1.heap.size = w.heap.size + 1 := by rw [hw1]; simp
  have R2 := Lib.hid (show ArR w S b ws w.heap.size 0 (.slice (some ⟨w1.heap.size, 0, none⟩) 1 1) w2 by
    refine ⟨by rw [hw2]; exact B1.alloc B1.size _, by rw [hw2]; exact T1.alloc _, w1.heap.size, 1, _, rfl, by omega, by rw [hw2]; simp, by rw [hw2]; exact World.ownsRow_lit w1 #[.int .i64 ((b : Int) + 1), .slice (some ⟨w.heap.size, 0, none⟩) 256 256] 1 B1.size (by decide) rfl, rfl, rfl, fun j hj h => by omega⟩)
  have HJ := Lib.hid hJ
  have HN := Lib.hid hn
  have HS := Lib.hid hS
  have HW := Lib.hid hW
  have HOK := Lib.hid hok
  have HW1 := Lib.hid hw1
  have HW2 := Lib.hid hw2
  have HSZ := Lib.hid hsz1
  clear hJ hn hS hW hok hw1 hw2 hsz1 B1 T1 j1
  go_enter Try.func62, Try.ntmps62
  go_upto_region 2 with fail
  rw [← HW1.out]
  go_upto_region 3 with fail
  rw [← HW2.out]
  go_wp2_with fail
  go_loopw [6, 20] (fun v i wr => ∃ k : Nat, k ≤ n ∧ i = .int .i64 k ∧ ArR w S b ws w.heap.size k v wr) (fun _ i _ => n - (intOf i).toNat)
  case atStart => exact ⟨0, by omega, rfl, R2.out⟩
  case round =>
    obtain ⟨k, hk, rfl, hR⟩ := hrel
    by_cases hkn : k < n
    · have hkl : k < ws.length := by rw [← HN.out]; exact hkn
      have hkI : (k : Int) < (n : Int) := by omega
      have hk0 : (0 : Int) ≤ (k : Int) := by omega
      obtain ⟨gR, cap, xs, rfl, hne, hlt, ho, hx⟩ := hR.row
      obtain ⟨b1, off, Ad, c1, rfl, hb1', hS1, c0w, c1w, hs, hAd⟩ := HW.out.at' k hkl
      have c0 := (hR.bel.cell (p := ⟨b1, off + k * 2, none⟩) hb1').trans c0w
      have c1' := (hR.bel.cell (p := ⟨b1, off + k * 2 + 1, none⟩) hb1').trans c1w
      have hxl : xs.length = (k + 1) * 2 := ho.1
      have HX6 := Lib.hid (hx.succ hxl hkl Ad c1 hs hAd)
      obtain ⟨x, hx'⟩ : ∃ x, x = ws[k] := ⟨_, rfl⟩
      have hxt : x.1 < 65536 := by rw [hx']; exact HOK.out _ (List.getElem_mem hkl)
      rw [← hx'] at c0
      have hxu : IntKind.u64.wrap (x.1 : Int) = (x.1 : Int) := IntWalk.u64_in _ ⟨by omega, by omega⟩
      have hk2 : IntKind.i64.wrap (2 * (k : Int)) = 2 * (k : Int) := IntWalk.i64_in _ ⟨by omega, by omega⟩
      have hk3 : wrap64 (2 * (k : Int)) = 2 * (k : Int) := IntWalk.wrap64_in _ ⟨by omega, by omega⟩
      have hs1 : (0 : Int) ≤ 2 * (k : Int) := by omega
      have hs2 : 2 * (k : Int) ≤ 256 := by omega
      have hs3 : (2 * (k : Int)).toNat = 2 * k := by omega
      have hs4 : ¬ 256 = 2 * k := by omega
      have hs5 : 2 * k ≤ 256 := by omega
      obtain ⟨w4, hw4⟩ : ∃ w4, w4 = wr.alloc (.cells #[.int .i64 (x.1 : Int), .slice Ad 256 c1] 76) := ⟨_, rfl⟩
      have B4 : Below wr.heap.size wr w4 := by rw [hw4]; exact (Below.refl _ _).alloc (Nat.le_refl _) _
      have X4 : Bk w4 wr.heap.size 76 #[.int .i64 (x.1 : Int), .slice Ad 256 c1] := by rw [hw4]; exact Bk.new wr _ _
      have x0 := X4.cell 0
      have x1 := X4.cell 1
      simp only [List.getElem?_toArray, List.getElem?_cons_zero, List.getElem?_cons_succ] at x0 x1
      have T4 := hR.tg.bel B4
      rw [tgN_split ws k (by omega)] at T4
      have HT4 := Lib.hid T4
      have HR := Lib.hid hR
      have HX4 := Lib.hid X4
      have HB4 := Lib.hid B4
      have HO := Lib.hid (own_belS ho B4)
      have HXX := Lib.hid hx'
      have HW4 := Lib.hid hw4
      have HNE := Lib.hid hne
      have HLT := Lib.hid hlt
      clear hR X4 B4 T4 ho hx hx' hw4 hne hlt hs hAd c0w c1w hxl
      go_upto_region 6 with fail
      rw [← HW4.out]
      go_still_tail 7, (by kernel_rfl)
      change wpList _ _ _ _ _ w4.drew
      clear x0 x1 c0 c1'
      have CP := Lib.hid (put_kp w.heap.size (2 * k) (256 - 2 * k) (256 - 2 * k) 2 x.1 ((ws.take k).flatMap fun y => leN y.1 2) [0, 0] (List.replicate (254 - 2 * k) 0) (by rw [tg_pre, List.length_take]; omega) rfl (by omega) (by omega) (by omega) (by omega) (by omega) w4.drew HT4.out.drew)
      go_wp2_with fail
      refine CP.out.mono ?_
      rintro e w5 ⟨rfl, htg, hkp⟩
      have hbx : Bk w5 wr.heap.size 76 #[.int .i64 (x.1 : Int), .slice Ad 256 c1] := hkp.bk HX4.out.drew (by have := HR.out.tg.lt; omega)
      have hB5 : Below w.heap.size w w5 := (HR.out.bel.trans (HB4.out.mono HR.out.bel.size)).drew.trans (hkp.below (fun i h => by rw [h]; exact Nat.le_refl _) (by have := HR.out.bel.size; have := HB4.out.size; show w.heap.size ≤ w4.heap.size; omega))
      have ho5 : w5.ownsRow w.heap.size 76 2 (.slice (some ⟨gR, 0, none⟩) (k + 1) cap) (k + 1) xs := hkp.own (own_belS HO.out (Below.refl _ _).drew) (fun b h => by injection h with h; subst h; exact HNE.out)
      rw [show leN x.1 2 = leN (ws[k]).1 2 by rw [HXX.out], ← tgN_succ ws k hkl (by omega)] at htg
      have hlt5 : gR < w5.heap.size := Nat.lt_of_lt_of_le HLT.out (Nat.le_trans HB4.out.size hkp.size)
      have hxb : wr.heap.size ≠ gR := by have := HLT.out; omega
      have hbk0 : (wr.heap.size : Nat) ≠ w.heap.size := by have := HR.out.tg.lt; omega
      have hsl := fun w => slot_any q p b s k w
      have G0 := Lib.hid (show ArG w gR w.heap.size wr.heap.size (k + 1) cap xs (u8s (tgN ws (k + 1))).toArray #[.int .i64 (x.1 : Int), .slice Ad 256 c1] w5.drew from ⟨hB5.drew, htg, hbx, hlt5, own_belS ho5 (Below.refl _ _).drew⟩)
      obtain ⟨xb, hxbb⟩ : ∃ xb, xb = wr.heap.size := ⟨_, rfl⟩
      rw [← hxbb] at G0 hxb ⊢
      clear hkp htg hbx hB5 ho5 hlt5 CP HO HX4 HT4 HB4 hxbb hs1 hs2 hs3 hs4 hs5 hk2 hk3 hxu
      go_wp2_with fail
      refine wp_region_was [some 33, some 34, some 35, some 36, some 37, some 38, some 39, some 40, some 41, some 6] (fun _ => 0) (arF w.heap.size gR (k + 1) cap q xb k b Ad c1 xs) (ArG w gR w.heap.size xb (k + 1) cap xs (u8s (tgN ws (k + 1))).toArray #[.int .i64 (x.1 : Int), .slice Ad 256 c1]) (by kernel_rfl) G0.out rfl (by kernel_rfl) (by kernel_rfl) (by kernel_rfl) (by kernel_rfl) (fun T hT => ?_)
      simp only [List.filterMap_cons, List.filterMap_nil, id, putsS, Act.put, List.setIfInBounds_toArray, List.set_cons_zero, List.set_cons_succ] at hT
      subst hT
      refine ⟨⟨?_, ?_, ?_, ?_, ?_, ?_, ?_, ?_, ?_, ?_, trivial⟩, ?_⟩
      · -- 0: Op.move t6
        intro f w1 hG hO hF K hK
        have o6 : f 6 = .slice (some ⟨gR, 0, none⟩) (k + 1) cap := hO 6 (by kernel_rfl)
        clear hO
        clear hF
        dsimp only at hK ⊢
        generalize f 6 = y6 at *
        subst o6
        go_simp
        exact hK.out _ _ hG rfl (fun _ _ _ h => h)
      · -- 1: Op.move t0
        refine StepA.was ?_
        refine StepL.act ?_
        intro f w1 hG hF K hK
        clear hF
        dsimp only at hK ⊢
        go_simp
        exact hK.out _ _ hG rfl (fun _ _ _ _ h => h)
      · -- 2: Op.move t7
        refine StepA.was ?_
        refine StepL.act ?_
        intro f w1 hG hF K hK
        clear hF
        dsimp only at hK ⊢
        go_simp
        exact hK.out _ _ hG rfl (fun _ _ _ _ h => h)
      · -- 3: Op.call ( value (Operand.func 74), args := #[t34, t35], argTypes := #[56, 3] )
        refine StepA.was ?_
        refine StepL.act ?_
        intro f w1 hG hF K hK
        have d1 : (arF w.heap.size gR (k + 1) cap q xb k b Ad c1 xs) 1 (f 34) (f 0) w1 := hF 1 (by kernel_rfl)
        have d2 : (arF w.heap.size gR (k + 1) cap q xb k b Ad c1 xs) 2 (f 35) (f 0) w1 := hF 2 (by kernel_rfl)
        clear hF
        dsimp only at hK ⊢
        generalize f 34 = v34 at *
        generalize f 35 = v35 at *
        subst d1 d2
        go_simp
        refine (slot_any q p b s k w1 (HJ.out.bel hG.bel) (by omega) (by omega)).mono ?_
        rintro e w2' ⟨rfl, rfl⟩
        exact hK.out _ _ hG rfl (fun _ _ _ _ h => h)
      · -- 4: Op.fieldAddr 76 t8 1
        refine StepA.was ?_
        refine StepL.act ?_
        intro f w1 hG hF K hK
        clear hF
        dsimp only at hK ⊢
        go_simp
        exact hK.out _ _ hG rfl (fun _ _ _ _ h => h)
      · -- 5: Op.load 26 t37
        refine StepA.was ?_
        refine StepL.act ?_
        intro f w1 hG hF K hK
        have d4 : (arF w.heap.size gR (k + 1) cap q xb k b Ad c1 xs) 4 (f 37) (f 0) w1 := hF 4 (by kernel_rfl)
        clear hF
        dsimp only at hK ⊢
        generalize f 37 = v37 at *
        subst d4
        have y := hG.bx.cell 1
        simp only [List.getElem?_toArray, List.getElem?_cons_zero, List.getElem?_cons_succ] at y
        go_simp
        exact hK.out _ _ hG rfl (fun _ _ _ _ h => h)
      · -- 6: Op.build 76 #[(0, t36), (1, t38)]
        refine StepA.was ?_
        refine StepL.act ?_
        intro f w1 hG hF K hK
        have d3 : (arF w.heap.size gR (k + 1) cap q xb k b Ad c1 xs) 3 (f 36) (f 0) w1 := hF 3 (by kernel_rfl)
        have d5 : (arF w.heap.size gR (k + 1) cap q xb k b Ad c1 xs) 5 (f 38) (f 0) w1 := hF 5 (by kernel_rfl)
        clear hF
        dsimp only at hK ⊢
        generalize f 36 = v36 at *
        generalize f 38 = v38 at *
        subst d3
        subst d5
        go_simp
        exact hK.out _ _ hG rfl (fun _ _ _ _ h => h)
      · -- 7: Op.buildSlice 30 1 #[(0, t39)]
        refine StepA.was ?_
        refine StepL.act ?_
        intro f w1 hG hF K hK
        have d6 : (arF w.heap.size gR (k + 1) cap q xb k b Ad c1 xs) 6 (f 39) (f 0) w1 := hF 6 (by kernel_rfl)
        clear hF
        dsimp only at hK ⊢
        generalize f 39 = v39 at *
        subst d6
        go_simp
        exact hK.out _ _ (hG.next ((Below.refl _ _).alloc (Nat.le_refl _) _)) ⟨w1.heap.size, rfl, (by have := hG.lt; omega), Bk.new w1 _ _⟩ (fun j _ u u' h => arF_bel ((Below.refl _ _).alloc (Nat.le_refl _) _) j u u' h)
      · -- 8: Op.call ( builtin append, args := #[t33, t40], argTypes := #[30, 30] )
        refine StepA.was ?_
        intro f w1 hG hF K hK
        have d0 : (arF w.heap.size gR (k + 1) cap q xb k b Ad c1 xs) 0 (f 33) (f 0) w1 := hF 0 (by kernel_rfl)
        have d7 : (arF w.heap.size gR (k + 1) cap q xb k b Ad c1 xs) 7 (f 40) (f 0) w1 := hF 7 (by kernel_rfl)
        clear hF
        dsimp only at hK ⊢
        generalize hf33 : f 33 = v33 at *
        generalize hf40 : f 40 = v40 at *
        have d0 : v33 = .slice (some ⟨gR, 0, none⟩) (k + 1) cap := d0
        subst d0
        obtain ⟨g, rfl, hg, hbk⟩ := d7
        have hcb : ∀ j u, [Value.int .i64 ((b : Int) + 2 + (k : Int)), Value.slice Ad 256 c1][j]? = some u → w1.cell? ((⟨g, 0, none⟩ : Addr).add j) = some u := fun j u hu => by
          rw [addr_add, hbk.cell j]; simpa using hu
        obtain ⟨v', w2', hrun, hown, hold, hkept, hbb, _⟩ := run_append_two (P := Try.prog) w1 w.heap.size 30 30 76 i0 _ 2 32 Try.underlying30 hi0 hz0 hz1 hzb rfl gR (k + 1) cap xs hG.own ⟨g, 0, none⟩ 1 1 [Value.int .i64 ((b : Int) + 2 + (k : Int)), Value.slice Ad 256 c1] rfl hcb (by intro u hu; simp only [List.mem_cons, List.not_mem_nil, or_false] at hu; rcases hu with rfl | rfl <;> rfl) (by omega) (by simp only [maxLen]; omega) (by omega) hG.bel.size
        have HK := hK.out v' w2' (hG.kept hkept hbb HNE.out.symm hxb hold) hown
        refine Lib.wp_append_run w1 _ _ _ _ rfl _ _ rfl rfl _ w2' hrun (HK ?_)
        intro j hj hdep h
        by_cases h9 : j = 9
        · subst h9
          exact absurd hdep (by rw [show depS _ 9 8 = true by kernel_rfl]; decide)
        · exact arF_kept hkept j hj h9 _ _ h
      · -- 9: Op.assign t41
        refine StepA.was ?_
        refine StepL.act ?_
        intro f w1 hG hF K hK
        have d8 : (arF w.heap.size gR (k + 1) cap q xb k b Ad c1 xs) 8 (f 41) (f 0) w1 := hF 8 (by kernel_rfl)
        clear hF
        dsimp only at hK ⊢
        generalize f 41 = v41 at *
        obtain ⟨g6, c6, rfl, _, _⟩ := World.ownsRow.form d8 (by omega)
        go_simp
        exact hK.out _ _ hG d8 (fun _ _ _ _ h => h)
      intro f w6 hG hF
      have f9 : w6.ownsRow w.heap.size 76 2 (f 6) (k + 1 + 1) (xs ++ [.int .i64 ((b : Int) + 2 + (k : Int)), .slice Ad 256 c1]) := hF 9 (by decide)
      have HG := Lib.hid hG
      clear hF hG
      dsimp only
      generalize f 33 = v33
      generalize f 34 = v34
      generalize f 35 = v35
      generalize f 36 = v36
      generalize f 37 = v37
      generalize f 38 = v38
      generalize f 39 = v39
      generalize f 40 = v40
      generalize f 41 = v41
      generalize f 6 = v6 at *
      obtain ⟨g6, c6, rfl, hg6, hl6⟩ := World.ownsRow.form f9 (by omega)
      have HO6 := Lib.hid f9
      clear f9
      go_wp2_with fail
      exact ⟨⟨k + 1, by omega, by go_num, HG.out.bel, HG.out.tg, g6, c6, _, rfl, own_ne HO6.out HG.out.tg (by decide), hl6, HO6.out, HX6.out⟩, by simp [intOf]; omega⟩
    · obtain rfl : k = n := by omega
      have hkk : ¬ (k : Int) < (k : Int) := by omega
      obtain ⟨A', c', hv, hws⟩ := (show ArR w S b ws w.heap.size ws.length _ wr by rw [← HN.out]; exact hR).done HS.out (Nat.le_refl _)
      have HB := Lib.hid hR.bel
      have HWS := Lib.hid hws
      rw [← HN.out] at hv
      subst hv
      clear hR hws
      go_wp2_with fail
      go_ret
      exact ⟨A', ⟨c', rfl⟩, HWS.out, HB.out⟩
end Go.Proofs.Ytmgbmnbjionapaa
