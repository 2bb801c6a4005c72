/- The walk of the sum of a text. Conditions: the bytes lie in memory; the text has less than ten to the seventeenth bytes. -/
import Derived.Test.YtbpclifgafafdaaDoorEnding
namespace Go.Proofs.YtbpclifgafafdaaDoor
open Go.RowKit

theorem Seg.sub {w : World} {b off : Nat} {xs : List Value} (h : Seg w (some ⟨b, off, none⟩) xs) (k m : Nat) (hk : k + m ≤ xs.length) : Seg w (some ⟨b, off + k, none⟩) ((xs.drop k).take m) := by
  intro hn
  have hne : xs ≠ [] := by intro e; subst e; simp at hn
  obtain ⟨b', off', e, hl, hc⟩ := h hne
  injection e with e
  injection e with e1 e2
  subst e1; subst e2
  refine ⟨b, off + k, rfl, hl, fun i hi => ?_⟩
  have hi' : i < m := by rw [List.length_take] at hi; omega
  rw [Nat.add_assoc, hc (k + i) (by omega), List.getElem?_take_of_lt hi', List.getElem?_drop]
theorem u8s_cut (l : List Nat) (k m : Nat) : ((u8s l).drop k).take m = u8s ((l.drop k).take m) := by simp [u8s, List.map_take, List.map_drop]
theorem endN_length (rest : List Nat) (N : Nat) (h : rest.length < 64) : (endN rest N).length = 64 * ((endN rest N).length / 64) ∧ (endN rest N).length ≤ 128 := by
  have : (endN rest N).length = rest.length + 1 + (119 - rest.length % 64) % 64 + 8 := by simp [endN, lenN]; omega
  rw [this]
  omega
theorem mem_cut {l : List Nat} (hl : ∀ x ∈ l, x < 256) (k m : Nat) : ∀ x ∈ (l.drop k).take m, x < 256 := fun x hx => hl x (List.mem_of_mem_drop (List.mem_of_mem_take hx))
theorem endN_lt (rest : List Nat) (N : Nat) (h : ∀ x ∈ rest, x < 256) : ∀ x ∈ endN rest N, x < 256 := by
  intro x hx
  unfold endN at hx
  simp only [List.mem_append, List.mem_cons, List.mem_replicate] at hx
  rcases hx with (hx | hx | hx) | hx
  · exact h x hx
  · omega
  · omega
  · simp only [lenN, List.mem_map] at hx
    obtain ⟨i, _, rfl⟩ := hx
    omega

def St.get (s : St) (k : Nat) : Nat := [s.a, s.b, s.c, s.d, s.e].getD k 0
theorem run_index5 (s : St) (k : Nat) (hk : k < 5) (w : World) : (Instr.index 79 (.agg #[.int .u32 (s.a : Int), .int .u32 (s.b : Int), .int .u32 (s.c : Int), .int .u32 (s.d : Int), .int .u32 (s.e : Int)]) (.int .i64 (k : Int))).run Tryd.prog w = .ok (.int .u32 ((s.get k : Nat) : Int)) w := by
  have ha : ∀ w, (asIntOf (Value.int .i64 (k : Int))).run Tryd.prog w = .ok (.i64, (k : Int)) w := fun _ => rfl
  have hg : (#[.int .u32 (s.a : Int), .int .u32 (s.b : Int), .int .u32 (s.c : Int), .int .u32 (s.d : Int), .int .u32 (s.e : Int)] : Array Value).extract k (k + 1) = #[.int .u32 ((s.get k : Nat) : Int)] := by
    match k, hk with
    | 0, _ => rfl
    | 1, _ => rfl
    | 2, _ => rfl
    | 3, _ => rfl
    | 4, _ => rfl
  have hp : (part 78 #[.int .u32 (s.a : Int), .int .u32 (s.b : Int), .int .u32 (s.c : Int), .int .u32 (s.d : Int), .int .u32 (s.e : Int)] k).run Tryd.prog w = .ok (.int .u32 ((s.get k : Nat) : Int)) w := by
    match k, hk with
    | 0, _ => simp [part, sizeOf, typeInfo, St.get]
    | 1, _ => simp [part, sizeOf, typeInfo, St.get]
    | 2, _ => simp [part, sizeOf, typeInfo, St.get]
    | 3, _ => simp [part, sizeOf, typeInfo, St.get]
    | 4, _ => simp [part, sizeOf, typeInfo, St.get]
  simp [Instr.index, run_underlying Tryd.underlying79, ha]
  rw [if_pos (by omega)]
  simpa using hp
theorem seg_four (w : World) (a b c d : Value) (e : TypeId) : Seg (w.alloc (.cells #[a, b, c, d] e)) (some ⟨w.heap.size, 0, none⟩) [a, b, c, d] :=
  Seg.of_block (heap_alloc_new w _) (by
    intro i hi
    match i, hi with
    | 0, _ => rfl
    | 1, _ => rfl
    | 2, _ => rfl
    | 3, _ => rfl)
theorem get_lt (s : St) (h : s.ok) (k : Nat) (hk : k < 5) : s.get k < 4294967296 := by
  obtain ⟨h1, h2, h3, h4, h5⟩ := h
  match k, hk with
  | 0, _ => exact h1
  | 1, _ => exact h2
  | 2, _ => exact h3
  | 3, _ => exact h4
  | 4, _ => exact h5
theorem outN_take (s : St) (k : Nat) (hk : k < 5) : (outN s).take (4 * (k + 1)) = (outN s).take (4 * k) ++ word4 (s.get k) := by
  match k, hk with
  | 0, _ => rfl
  | 1, _ => rfl
  | 2, _ => rfl
  | 3, _ => rfl
  | 4, _ => rfl

/-- Five stores into a block of five cells. -/
theorem five {w : World} {g B : Nat} {a : World} {cs : Array Value} (hs : cs.size = 5) (h : Bk w g 79 cs) (hb : Below B a w) (hg : B ≤ g) (v0 v1 v2 v3 v4 : Value) :
    Bk (((((w.setCell ⟨g, 0, none⟩ v0).setCell ⟨g, 1, none⟩ v1).setCell ⟨g, 2, none⟩ v2).setCell ⟨g, 3, none⟩ v3).setCell ⟨g, 4, none⟩ v4) g 79 #[v0, v1, v2, v3, v4] ∧
    Below B a (((((w.setCell ⟨g, 0, none⟩ v0).setCell ⟨g, 1, none⟩ v1).setCell ⟨g, 2, none⟩ v2).setCell ⟨g, 3, none⟩ v3).setCell ⟨g, 4, none⟩ v4) := by
  refine ⟨?_, ((((hb.setCell hg _).setCell hg _).setCell hg _).setCell hg _).setCell hg _⟩
  have h5 := ((((h.put 0 v0).put 1 v1).put 2 v2).put 3 v3).put 4 v4
  have e : (((((cs.setIfInBounds 0 v0).setIfInBounds 1 v1).setIfInBounds 2 v2).setIfInBounds 3 v3).setIfInBounds 4 v4) = #[v0, v1, v2, v3, v4] := by
    clear h5 h hb
    obtain ⟨l⟩ := cs
    match l, hs with
    | [a0, a1, a2, a3, a4], _ => rfl
  rw [e] at h5
  exact h5

set_option maxRecDepth 100000 in
set_option maxHeartbeats 4000000 in
theorem sha_walk (A : Option Addr) (n c q : Nat) (l : List Nat) (hn : n = l.length) (hq : q = n / 64) (hnc : n ≤ c) (hN : n ≤ 100000000000000000) (w : World) (hA : Seg w A (u8s l)) (hl : ∀ x ∈ l, x < 256) :
    Calls Tryd.prog 28 #[.slice A n c] w fun e w' => ∃ A' c', e = .returned (.slice A' 20 c') ∧ 20 ≤ c' ∧
      Seg w' A' (u8s (outN (chunksN (chunksN h0N l q) (endN (l.drop (64 * q)) n) ((endN (l.drop (64 * q)) n).length / 64)))) ∧ Below w.heap.size w w' := by
  obtain ⟨i0, hi0, hz0, hz1, hz2⟩ := info_parts info5
  have HA := Lib.hid hA
  have HL := Lib.hid hl
  have HN := Lib.hid hn
  have hq1 : 64 * q ≤ n := by omega
  have hq2 : n < 64 * q + 64 := by omega
  have ew : (n : Int) - (n : Int) % 64 = 64 * (q : Int) := by omega
  have HQ := Lib.hid hq
  clear hA hl hn hq
  have b0 : Bk (w.alloc (.cells (stA h0N) 79)) w.heap.size 79 (stA h0N) := Bk.new w 79 _
  have bw : Below w.heap.size w (w.alloc (.cells (stA h0N) 79)) := (Below.refl _ _).alloc (Nat.le_refl _) _
  have hs0 : (stA h0N) = #[.int .u32 1732584193, .int .u32 4023233417, .int .u32 2562383102, .int .u32 271733878, .int .u32 3285377520] := rfl
  rw [hs0] at bw b0
  go_enter Tryd.func28, Tryd.ntmps28
  go_wp2
  clear ew
  go_loopw [5] (fun i wr => ∃ j : Nat, j ≤ q ∧ i = .int .i64 (64 * (j : Int)) ∧ Bk wr w.heap.size 79 (stA (chunksN h0N l j)) ∧ Below w.heap.size w wr) (fun i _ => 64 * q - (intOf i).toNat)
  case atStart => exact ⟨0, by omega, rfl, b0, bw⟩
  case round =>
    obtain ⟨j, hj, rfl, c0, cw⟩ := hrel
    have C0 := Lib.hid c0
    have CW := Lib.hid cw
    clear c0 cw b0 bw hs0
    by_cases hlt : j < q
    · obtain ⟨b, off, rfl, hbl, _, _⟩ := HA.out.pick (k := 0) (by rw [u8s_length, ← HN.out]; omega)
      have hok := chunksN_ok h0N h0N_ok l j
      have hnx : chunksN h0N l (j + 1) = mixN (chunksN h0N l j) ((l.drop (64 * j)).take 64) := rfl
      have hlen : ((l.drop (64 * j)).take 64).length = 64 := by rw [List.length_take, List.length_drop, ← HN.out]; omega
      have hseg : Seg w (some ⟨b, off + 64 * j, none⟩) (u8s ((l.drop (64 * j)).take 64)) := by
        rw [← u8s_cut]; exact HA.out.sub (64 * j) 64 (by rw [u8s_length, ← HN.out]; omega)
      have HMix := Lib.hid (mix_any (chunksN h0N l j) hok (some ⟨b, off + 64 * j, none⟩) (c - 64 * j) ((l.drop (64 * j)).take 64) hlen)
      have HSg := Lib.hid hseg
      have HCl := Lib.hid (mem_cut HL.out (64 * j) 64)
      have HNx := Lib.hid hnx
      have d0 := C0.out.cell 0
      have d1 := C0.out.cell 1
      have d2 := C0.out.cell 2
      have d3 := C0.out.cell 3
      have d4 := C0.out.cell 4
      simp [stA] at d0 d1 d2 d3 d4
      unfold stA at HMix
      generalize hst : chunksN h0N l j = s at *
      have HSt := Lib.hid hst
      clear hok hnx hlen hseg hst
      have i1 : (0 : Int) ≤ 64 * (j : Int) := by omega
      have i2 : 64 * (j : Int) ≤ 64 * (j : Int) + 64 := by omega
      have i3 : 64 * (j : Int) + 64 ≤ (c : Int) := by omega
      have i4 : ¬ c = 64 * j := by omega
      have t0 : (64 * (j : Int)).toNat = 64 * j := by omega
      have t1 : (64 * (j : Int) + 64).toNat = 64 * j + 64 := by omega
      have x0 : IntKind.i64.wrap (64 * (j : Int) + 64) = 64 * (j : Int) + 64 := IntWalk.i64_in _ (by omega)
      go_wp2_with fail
      go_still_tail 6, (by kernel_rfl)
      clear x0 d0 d1 d2 d3 d4
      change wpList _ _ _ _ _ wr.drew
      generalize hwd : wr.drew = w2
      have C0' := Lib.hid (show Bk w2 w.heap.size 79 (stA s) by rw [← hwd]; exact C0.out.drew)
      have CW' := Lib.hid (show Below w.heap.size w w2 by rw [← hwd]; exact CW.out.drew)
      clear hwd
      go_wp2_with (go_at_call 37; refine (HMix.out w2 (HSg.out.bel CW'.out) HCl.out).mono ?_; rintro e w3 ⟨rfl, b3⟩; have C3 := Lib.hid (C0'.out.bel b3); have CW3 := Lib.hid (CW'.out.trans (b3.mono CW'.out.size)); clear b3; have y0 := C3.out.cell 0; have y1 := C3.out.cell 1; have y2 := C3.out.cell 2; have y3 := C3.out.cell 3; have y4 := C3.out.cell 4; simp [stA] at y0 y1 y2 y3 y4; have f0 := C3.out.frozen 0; have f1 := C3.out.frozen 1; have f2 := C3.out.frozen 2; have f3 := C3.out.frozen 3; have f4 := C3.out.frozen 4)
      have H5 := five (by rfl) C3.out CW3.out (Nat.le_refl _)
      go_roundw
      case rel =>
        refine ⟨j + 1, by omega, congrArg (Value.int .i64) (by omega), ?_, (H5 _ _ _ _ _).2⟩
        rw [HNx.out]
        exact (H5 _ _ _ _ _).1
      case measure => simp [intOf]; omega
    · obtain rfl : j = q := by omega
      have hok := Lib.hid (chunksN_ok h0N h0N_ok l j)
      have hrl : (l.drop (64 * j)).length < 64 := by rw [List.length_drop, ← HN.out]; omega
      have hrn : n - 64 * j = (l.drop (64 * j)).length := by rw [List.length_drop, ← HN.out]
      have HRl := Lib.hid (show ∀ x ∈ l.drop (64 * j), x < 256 from fun x hx => HL.out x (List.mem_of_mem_drop hx))
      have HEn := Lib.hid (endN_length (l.drop (64 * j)) n hrl)
      have HEl := Lib.hid (endN_lt (l.drop (64 * j)) n HRl.out)
      have hcut := HA.out.cut (64 * j) c (by rw [u8s_length, ← HN.out]; exact hnc)
      rw [show (u8s l).drop (64 * j) = u8s (l.drop (64 * j)) by simp [u8s, List.map_drop]] at hcut
      have HCut := Lib.hid hcut
      have HRn := Lib.hid hrn
      have hrl2 : n - 64 * j < 64 := by omega
      generalize hst : chunksN h0N l j = s0 at *
      have HSt := Lib.hid hst
      clear hcut hrl hrn hst
      obtain ⟨A2, hA2⟩ : ∃ A2, A2 = if c = 64 * j then A else A.map (·.add (64 * j)) := ⟨_, rfl⟩
      have hsl : ∀ w : World, (Instr.sliceAt 47 (.slice A n c) (some (.int .i64 (64 * (j : Int)))) none none).run Tryd.prog w = .ok (.slice A2 (n - 64 * j) (c - 64 * j)) w := fun w => by
        have hu : Tryd.prog.underlying 47 = some (.slice (Tryd.prog.elem 47)) := by kernel_rfl
        have he : Tryd.prog.elem 47 = 5 := by kernel_rfl
        have ht : (64 * (j : Int)).toNat = 64 * j := by omega
        rw [run_sliceAt_slice (P := Tryd.prog) w 47 _ _ _ _ hu, run_slice_l (P := Tryd.prog) w 47 A n c hu .i64 (64 * (j : Int)) (by omega) (by omega), he]
        have hsz5 : (sizeOf 5).run Tryd.prog w = .ok 1 w := by simp [sizeOf, typeInfo, hi0, hz1]
        rw [hsz5, hA2, ht]
        simp [Result.andThen, sliced]
      rw [← hA2] at HCut
      generalize hrest : l.drop (64 * j) = rest at *
      have HRest := Lib.hid hrest
      clear hrest
      clear hA2
      go_wp2_with fail
      refine (ending_any A2 (n - 64 * j) (c - 64 * j) n rest HRn.out hrl2 (by omega) wr (HCut.out.bel CW.out)).mono ?_; rintro e w4 ⟨A3, c3, rfl, hc3, fr3, s3, b4⟩
      have S3 := Lib.hid s3
      have FR := Lib.hid (show ∀ a, A3 = some a → w.heap.size < a.block from fun a ha => by have := fr3 a ha; have := C0.out.lt; omega)
      clear fr3
      have D0 := Lib.hid (C0.out.bel b4)
      have DW := Lib.hid (CW.out.trans (b4.mono CW.out.size))
      clear s3 b4 C0 CW HCut HA HL hsl HRl
      generalize hE : endN rest n = E at *
      have HE := Lib.hid hE
      clear hE
      obtain ⟨he1, he2⟩ := HEn.out
      obtain ⟨m, hm⟩ : ∃ m, m = E.length / 64 := ⟨_, rfl⟩
      rw [← hm] at he1
      have HEL := Lib.hid he1
      have HMm := Lib.hid hm
      have hm2 : 64 * m ≤ 128 := by omega
      have hc3' : 64 * m ≤ c3 := by omega
      clear hm HEn
      clear he1 he2 hc3
      go_wp2_with fail
      go_loopw [7] (fun i wr => ∃ k : Nat, k ≤ m ∧ i = .int .i64 (64 * (k : Int)) ∧ Bk wr w.heap.size 79 (stA (chunksN s0 E k)) ∧ Seg wr A3 (u8s E) ∧ Below w.heap.size w wr) (fun i _ => 64 * m - (intOf i).toNat)
      case atStart => exact ⟨0, by omega, rfl, D0.out, S3.out, DW.out⟩
      case round =>
        obtain ⟨k, hk, rfl, c0, s4, cw⟩ := hrel
        have S4 := Lib.hid s4
        clear s4 S3
        have C0 := Lib.hid c0
        have CW := Lib.hid cw
        clear c0 cw D0 DW
        by_cases hlt : k < m
        · obtain ⟨b, off, rfl, hbl, _, _⟩ := S4.out.pick (k := 0) (by rw [u8s_length, HEL.out]; omega)
          have hok := chunksN_ok s0 hok.out E k
          have hnx : chunksN s0 E (k + 1) = mixN (chunksN s0 E k) ((E.drop (64 * k)).take 64) := rfl
          have hlen : ((E.drop (64 * k)).take 64).length = 64 := by rw [List.length_take, List.length_drop, HEL.out]; omega
          have hseg : Seg wr (some ⟨b, off + 64 * k, none⟩) (u8s ((E.drop (64 * k)).take 64)) := by
            rw [← u8s_cut]; exact S4.out.sub (64 * k) 64 (by rw [u8s_length, HEL.out]; omega)
          have HMix := Lib.hid (mix_any (chunksN s0 E k) hok (some ⟨b, off + 64 * k, none⟩) (c3 - 64 * k) ((E.drop (64 * k)).take 64) hlen)
          have HSg := Lib.hid hseg
          have HCl := Lib.hid (mem_cut HEl.out (64 * k) 64)
          have HNx := Lib.hid hnx
          have d0 := C0.out.cell 0
          have d1 := C0.out.cell 1
          have d2 := C0.out.cell 2
          have d3 := C0.out.cell 3
          have d4 := C0.out.cell 4
          simp [stA] at d0 d1 d2 d3 d4
          unfold stA at HMix
          generalize hst : chunksN s0 E k = s at *
          have HSt2 := Lib.hid hst
          clear hok hnx hlen hseg hst
          have i1 : (0 : Int) ≤ 64 * (k : Int) := by omega
          have i2 : 64 * (k : Int) ≤ 64 * (k : Int) + 64 := by omega
          have i3 : 64 * (k : Int) + 64 ≤ (c3 : Int) := by omega
          have i4 : ¬ c3 = 64 * k := by omega
          have i5 : (64 * (k : Int)) < (E.length : Int) := by rw [HEL.out]; omega
          have t0 : (64 * (k : Int)).toNat = 64 * k := by omega
          have t1 : (64 * (k : Int) + 64).toNat = 64 * k + 64 := by omega
          have x0 : IntKind.i64.wrap (64 * (k : Int) + 64) = 64 * (k : Int) + 64 := IntWalk.i64_in _ (by omega)
          go_wp2_with fail
          go_still_tail 6, (by kernel_rfl)
          clear x0 d0 d1 d2 d3 d4
          change wpList _ _ _ _ _ wr.drew
          generalize hwd : wr.drew = w5
          have C0' := Lib.hid (show Bk w5 w.heap.size 79 (stA s) by rw [← hwd]; exact C0.out.drew)
          have CW' := Lib.hid (show Below w.heap.size w w5 by rw [← hwd]; exact CW.out.drew)
          have S5 := Lib.hid (show Seg w5 (some ⟨b, off, none⟩) (u8s E) by rw [← hwd]; exact S4.out)
          have HSg' := Lib.hid (show Seg w5 (some ⟨b, off + 64 * k, none⟩) (u8s ((E.drop (64 * k)).take 64)) by rw [← hwd]; exact HSg.out)
          clear hwd
          go_wp2_with (go_at_call 37; refine (HMix.out w5 HSg'.out HCl.out).mono ?_; rintro e w3 ⟨rfl, b3⟩; have C3 := Lib.hid (C0'.out.bel b3); have S6 := Lib.hid (S5.out.bel b3); have CW3 := Lib.hid (CW'.out.trans (b3.mono CW'.out.size)); clear b3; have y0 := C3.out.cell 0; have y1 := C3.out.cell 1; have y2 := C3.out.cell 2; have y3 := C3.out.cell 3; have y4 := C3.out.cell 4; simp [stA] at y0 y1 y2 y3 y4; have f0 := C3.out.frozen 0; have f1 := C3.out.frozen 1; have f2 := C3.out.frozen 2; have f3 := C3.out.frozen 3; have f4 := C3.out.frozen 4)
          have H5 := five (by rfl) C3.out CW3.out (Nat.le_refl _)
          have S7 := Lib.hid (fun v0 v1 v2 v3 v4 => ((((S6.out.far FR.out 0 v0).far FR.out 1 v1).far FR.out 2 v2).far FR.out 3 v3).far FR.out 4 v4)
          go_roundw
          case rel =>
            refine ⟨k + 1, by omega, congrArg (Value.int .i64) (by omega), ?_, S7.out _ _ _ _ _, (H5 _ _ _ _ _).2⟩
            rw [HNx.out]
            exact (H5 _ _ _ _ _).1
          case measure => simp [intOf]; omega
        · obtain rfl : k = m := by omega
          have i5 : ¬ (64 * (k : Int)) < (E.length : Int) := by rw [HEL.out]; omega
          have hmk : ∀ w : World, (Instr.makeSlice 47 (.int .i64 0) (.int .i64 20)).run Tryd.prog w = .ok (.slice (some ⟨w.heap.size, 0, none⟩) 0 20) (w.alloc (.cells (madeCells #[.int .u8 0] 20) 5)) := fun w => by
            have := run_make (P := Tryd.prog) w 47 5 i0 (.int .u8 0) Tryd.underlying47 hi0 hz0 .i64 .i64 0 20 (by omega) (by omega) (by rw [hz2]; omega) (by omega)
            rw [hz1] at this
            exact this
          have HM := Lib.hid (World.ownsRow_made (w := wr) (base := w.heap.size) (e := 5) (size := 1) (madeCells #[.int .u8 0] 20) 20 CW.out.size (by decide) (by kernel_rfl))
          have B0 := Lib.hid (CW.out.alloc CW.out.size (.cells (madeCells #[.int .u8 0] 20) 5))
          have C1 := Lib.hid (C0.out.alloc (.cells (madeCells #[.int .u8 0] 20) 5))
          have hsz0 : (wr.alloc (.cells (madeCells #[.int .u8 0] 20) 5)).heap.size = wr.heap.size + 1 := by simp
          have hok3 := chunksN_ok s0 hok.out E k
          generalize hst : chunksN s0 E k = s at *
          have HSt2 := Lib.hid hst
          have HS := Lib.hid hok3
          have d0 := C1.out.cell 0
          have d1 := C1.out.cell 1
          have d2 := C1.out.cell 2
          have d3 := C1.out.cell 3
          have d4 := C1.out.cell 4
          simp [stA] at d0 d1 d2 d3 d4
          clear hst hok3 S4 C0 CW
          generalize hw0 : wr.alloc (.cells (madeCells #[.int .u8 0] 20) 5) = w6 at *
          go_wp2_with fail
          go_loopw [8, 51] (fun v i wq => ∃ p : Nat, p ≤ 5 ∧ i = .int .i64 p ∧ wq.ownsRow w.heap.size 5 1 v (4 * p) (u8s ((outN s).take (4 * p))) ∧ Below w.heap.size w wq) (fun _ i _ => 5 - (intOf i).toNat)
          case atStart => exact ⟨0, by omega, rfl, HM.out, B0.out⟩
          case round =>
            obtain ⟨p, hp, rfl, hown, hb⟩ := hrel
            have HO := Lib.hid hown
            have HW := Lib.hid hb
            have hsz := hb.size
            clear hown hb HM
            by_cases hlt : p < 5
            · have hx := run_index5 s p hlt
              have hX := get_lt s HS.out p hlt
              have hT := outN_take s p hlt
              have HT := Lib.hid hT
              unfold word4 at HT
              generalize s.get p = X at *
              clear hT
              obtain ⟨A1, c1, rfl, hc1, _⟩ := own_shape HO.out
              go_wp2_with (at_builtin; refine wpList_append_seg _ rfl _ _ _ rfl w.heap.size 5 i0 _ 1 Tryd.underlying47 hi0 hz0 hz1 hz2 rfl _ (4 * p) _ rfl (own_alloc HO.out _) (some ⟨wr.heap.size, 0, none⟩) 4 4 [.int .u8 ((X : Int) / 16777216), .int .u8 ((X : Int) / 65536 % 256), .int .u8 ((X : Int) / 256 % 256), .int .u8 ((X : Int) % 256)] rfl rfl (seg_four _ _ _ _ _ _) (by simp [Value.oneCell']) (by simp only [maxLen]; omega) (by omega) (by simp only [World.size_alloc]; omega) ?_; intro v' w' hown' hb')
              go_roundw
              case rel =>
                refine ⟨p + 1, by omega, by go_num, ?_, (HW.out.alloc hsz _).trans hb'⟩
                have e : u8s ((outN s).take (4 * p)) ++ [Value.int .u8 ((X : Int) / 16777216), .int .u8 ((X : Int) / 65536 % 256), .int .u8 ((X : Int) / 256 % 256), .int .u8 ((X : Int) % 256)] = u8s ((outN s).take (4 * (p + 1))) := by
                  rw [HT.out, u8s_append]
                  congr 1
                  have e1 : (X : Int) / 16777216 = ((X / 16777216 % 256 : Nat) : Int) := by omega
                  rw [e1]
                  simp [u8s]
                rw [e] at hown'
                exact hown'
              case measure => simp [intOf]; omega
            · obtain rfl : p = 5 := by omega
              obtain ⟨A1, c1, rfl, hc1, s1⟩ := own_shape HO.out
              have hl : (outN s).take (4 * 5) = outN s := by rfl
              rw [hl] at s1
              have S1 := Lib.hid s1
              clear HO s1 hl
              go_wp2
              go_ret
              refine ⟨A1, c1, rfl, hc1, ?_, HW.out⟩
              have e : chunksN (chunksN h0N l j) (endN (l.drop (64 * j)) n) ((endN (l.drop (64 * j)) n).length / 64) = s := by
                rw [HRest.out, HE.out, HSt.out, ← HMm.out, HSt2.out]
              rw [e]
              exact S1.out

theorem chunksN_front (h : St) (p r : List Nat) : ∀ q, 64 * q ≤ p.length → chunksN h (p ++ r) q = chunksN h p q
  | 0 => fun _ => rfl
  | q + 1 => fun hq => by
    show mixN (chunksN h (p ++ r) q) _ = mixN (chunksN h p q) _
    rw [chunksN_front h p r q (by omega), List.drop_append_of_le_length (by omega), List.take_append_of_le_length (by rw [List.length_drop]; omega)]
theorem chunksN_back (h : St) (p r : List Nat) (q : Nat) (hq : 64 * q = p.length) : ∀ m, chunksN h (p ++ r) (q + m) = chunksN (chunksN h p q) r m
  | 0 => chunksN_front h p r q (by omega)
  | m + 1 => by
    show mixN (chunksN h (p ++ r) (q + m)) _ = mixN (chunksN (chunksN h p q) r m) _
    rw [chunksN_back h p r q hq m]
    congr 2
    rw [show 64 * q.add m = p.length + 64 * m by show 64 * (q + m) = _; omega, List.drop_append]
    simp
theorem chunksN_take (h : St) (p : List Nat) (n : Nat) : ∀ q, 64 * q ≤ n → chunksN h (p.take n) q = chunksN h p q
  | 0 => fun _ => rfl
  | q + 1 => fun hq => by
    show mixN (chunksN h (p.take n) q) _ = mixN (chunksN h p q) _
    rw [chunksN_take h p n q (by omega), List.drop_take, List.take_take, Nat.min_eq_left (by omega)]
theorem sha_parts (l : List Nat) : outN (chunksN (chunksN h0N l (l.length / 64)) (endN (l.drop (64 * (l.length / 64))) l.length) ((endN (l.drop (64 * (l.length / 64))) l.length).length / 64)) = shaN l := by
  unfold shaN
  generalize hq : l.length / 64 = q
  have hl : 64 * q ≤ l.length := by omega
  have he : endN l l.length = l.take (64 * q) ++ endN (l.drop (64 * q)) l.length := by
    unfold endN
    rw [← List.append_assoc, ← List.append_assoc, List.take_append_drop, List.length_drop]
    congr 4
    omega
  have ht : (l.take (64 * q)).length = 64 * q := by rw [List.length_take]; omega
  show _ = outN (chunksN h0N (endN l l.length) ((endN l l.length).length / 64))
  rw [he, List.length_append, ht, show (64 * q + (endN (l.drop (64 * q)) l.length).length) / 64 = q + (endN (l.drop (64 * q)) l.length).length / 64 by omega, chunksN_back h0N _ _ q (by omega), chunksN_take h0N l _ q (Nat.le_refl _)]
theorem outN_lt (s : St) : ∀ x ∈ outN s, x < 256 := by
  intro x hx
  simp only [outN, word4, List.mem_append, List.mem_cons, List.not_mem_nil, or_false] at hx
  omega
theorem shaN_length (l : List Nat) : (shaN l).length = 20 := rfl
theorem sha_any (A : Option Addr) (n c : Nat) (l : List Nat) (hn : n = l.length) (hnc : n ≤ c) (hN : n ≤ 100000000000000000) (w : World) (hA : Seg w A (u8s l)) (hl : ∀ x ∈ l, x < 256) :
    Calls Tryd.prog 28 #[.slice A n c] w fun e w' => ∃ A' c', e = .returned (.slice A' 20 c') ∧ 20 ≤ c' ∧ Seg w' A' (u8s (shaN l)) ∧ Below w.heap.size w w' := by
  refine (sha_walk A n c (n / 64) l hn rfl hnc hN w hA hl).mono ?_
  rintro e w' ⟨A', c', he, hc, hs, hb⟩
  refine ⟨A', c', he, hc, ?_, hb⟩
  rw [← sha_parts, ← hn]
  exact hs
end Go.Proofs.YtbpclifgafafdaaDoor
