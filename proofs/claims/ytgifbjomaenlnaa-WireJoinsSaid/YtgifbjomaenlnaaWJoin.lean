/- The statement on messages whose frames come behind one another, its own walk. Condition: the messages lie in memory. -/
import Derived.Test.YtgifbjomaenlnaaWFeed
import Derived.Test.YtgifbjomaenlnaaWFew
import Derived.Test.YtgifbjomaenlnaaWAwake
namespace Go.Proofs.Ytgifbjomaenlnaa
open Go.RowKit

def lastL : List MsgM → Nat
  | [] => 0
  | [m] => (frameN m).length
  | _ :: l => lastL l
theorem lastL_snoc : ∀ (l : List MsgM) (m : MsgM), lastL (l ++ [m]) = (frameN m).length
  | [], _ => rfl
  | [_], _ => rfl
  | _ :: b :: l, m => lastL_snoc (b :: l) m
theorem frames_len : ∀ (l : List MsgM), (∀ m ∈ l, Told m) → (framesN l).length ≤ 902 * l.length
  | [], _ => Nat.le_refl _
  | m :: l, h => by
    have h1 := frames_len l (fun x hx => h x (List.mem_cons_of_mem _ hx))
    have h2 := encN_len (h m (by simp)).ck
    rw [framesN, List.length_append, frameN_len, List.length_cons]
    omega
theorem frames_lt : ∀ (l : List MsgM), (∀ m ∈ l, Told m) → ∀ x ∈ framesN l, x < 256
  | [], _, x, hx => absurd hx List.not_mem_nil
  | m :: l, h, x, hx => by
    have hm := h m (by simp)
    have h2 := encN_len hm.ck
    rw [framesN] at hx
    rcases List.mem_append.1 hx with hx | hx
    · unfold frameN at hx
      simp only [List.mem_cons] at hx
      rcases hx with rfl | rfl | hx
      · omega
      · omega
      · exact encN_lt hm.nm hm.en x hx
    · exact frames_lt l (fun x hx => h x (List.mem_cons_of_mem _ hx)) x hx
/-- All but the last bytes of some frames, and the rest. -/
theorem run_but (l : List MsgM) (m : MsgM) (k : Nat) (h : ∀ x ∈ l, Told x) (hm : Told m) (hk : k < (frameN m).length) : feedN [] 0 (framesN l ++ (frameN m).take k) = (l, (frameN m).take k, 0) := by
  obtain ⟨h1, h2⟩ := part_none hm hk
  unfold feedN
  rw [if_pos rfl, List.nil_append, run_told l _ h h1]
  simp only [h2, if_true]
theorem run_rest (m : MsgM) (k : Nat) (hm : Told m) : feedN ((frameN m).take k) 0 ((frameN m).drop k) = ([m], [], 0) := by
  have h1 : firstN ([] : List Nat) = none := rfl
  have h2 := run_told [m] [] (fun x hx => by simp only [List.mem_singleton] at hx; subst hx; exact hm) h1
  rw [framesN, framesN, List.append_nil, List.append_nil] at h2
  have h3 : firstE ([] : List Nat) = 0 := rfl
  unfold feedN
  rw [if_pos rfl, List.take_append_drop, h2]
  simp only [h3, if_true]
/-- Where the loop stands. -/
structure JnS (w0 : World) (LM : List MsgM) (V : Value) (w : World) : Prop where
  bel : Below w0.heap.size w0 w
  st : StW w w0.heap.size [] 0
  own : w.ownsRow (w0.heap.size + 1) 5 1 V (framesN LM).length (u8s (framesN LM))
  tl : ∀ m ∈ LM, Told m
theorem JnS.big {w0 w : World} {LM : List MsgM} {V : Value} (h : JnS w0 LM V w) : w0.heap.size + 1 ≤ w.heap.size := h.st.lt
theorem JnS.next {w0 w w' : World} {LM : List MsgM} {V : Value} (h : JnS w0 LM V w) (hb : Below w.heap.size w w') : JnS w0 LM V w' :=
  ⟨h.bel.trans (hb.mono h.bel.size), h.st.bel hb, own_belS h.own hb, h.tl⟩
theorem JnS.app {w0 w w' : World} {LM : List MsgM} {V V' : Value} (h : JnS w0 LM V w) {m : MsgM} (hm : Told m) (ho : w'.ownsRow (w0.heap.size + 1) 5 1 V' ((framesN LM).length + (frameN m).length) (u8s (framesN LM) ++ u8s (frameN m))) (hb : Below (w0.heap.size + 1) w w') : JnS w0 (LM ++ [m]) V' w' := by
  have e : framesN (LM ++ [m]) = framesN LM ++ frameN m := by rw [framesN_append, framesN, framesN, List.append_nil]
  refine ⟨h.bel.trans (hb.mono (by omega)), ?_, ?_, fun x hx => ?_⟩
  · obtain ⟨A, c, h1, h2, h3, h4⟩ := h.st
    refine ⟨A, c, h1.below hb (by omega), h2, Seg.nil _ _, fun a e => ⟨(h4 a e).1, Nat.lt_of_lt_of_le (h4 a e).2 hb.size⟩⟩
  · rw [e, ← u8s_append, List.length_append]
    exact ho
  · rcases List.mem_append.1 hx with hx | hx
    · exact h.tl x hx
    · simp only [List.mem_singleton] at hx
      subst hx
      exact hm
set_option maxRecDepth 100000 in
set_option maxHeartbeats 4000000 in
theorem wjoin_any (L : List Mq) (a0 : Option Addr) (len cap : Nat) (hl : len = L.length) (hlc : len ≤ cap) (hz : cap ≤ 1466015503701) (cut : Int) (hcut : inI cut) (w : World) (hS : Seg w a0 (mqV L)) (hq : ∀ q ∈ L, Mg w q.m q.A q.n q.c) :
    Calls Try.prog 6 #[.slice a0 len cap, .int .i64 cut] w fun e w' => e = .returned (.bool true) ∧ Below w.heap.size w w' := by
  obtain ⟨i0, hi0, hz0, hz1, hz2⟩ := info_parts info5
  obtain ⟨wa, hwa⟩ : ∃ wa, wa = w.alloc (.cells #[.slice none 0 0, .int .i64 0] 42) := ⟨_, rfl⟩
  have hsa : wa.heap.size = w.heap.size + 1 := by rw [hwa]; simp
  have BA : Below w.heap.size w wa := by rw [hwa]; exact (Below.refl _ _).alloc (Nat.le_refl _) _
  have XA : StW wa w.heap.size [] 0 := ⟨none, 0, by rw [hwa]; exact Bk.new w _ _, Nat.le_refl _, Seg.nil _ _, fun a e => by cases e⟩
  have HJ := Lib.hid (show JnS w [] (.slice (some ⟨w.heap.size + 1, 0, none⟩) 0 0) (wa.alloc (.cells #[] 5)) from
    ⟨BA.alloc BA.size _, XA.bel ((Below.refl _ _).alloc (Nat.le_refl _) _), by rw [← hsa]; exact World.ownsRow_lit wa #[] 0 (Nat.le_refl _) (by decide) rfl, fun m hm => absurd hm List.not_mem_nil⟩)
  have HRW := Lib.hid (show RowM w L a0 len from ⟨hl, hS, by omega, fun q hq' => (hq q hq').ent'⟩)
  have HQ := Lib.hid hq
  have HWA := Lib.hid hwa
  have HSA := Lib.hid hsa
  clear hl hS hq hwa hsa BA XA
  go_enter Try.func6, Try.ntmps6
  go_upto_region 2 with fail
  rw [← HWA.out]
  go_upto_region 3 with fail
  rw [HSA.out]
  go_wp2_with fail
  go_loopw [6, 7, 8, 9] (fun V nv lv iv wr => ∃ (i : Nat) (LM : List MsgM), iv = .int .i64 (i : Int) ∧ i ≤ len ∧ i ≤ 10 ∧ LM.length ≤ i ∧ nv = .int .i64 ((LM.length : Nat) : Int) ∧ lv = .int .i64 ((lastL LM : Nat) : Int) ∧ Hid (JnS w LM V wr)) (fun _ _ _ iv _ => len - (intOf iv).toNat)
  case atStart => exact ⟨0, [], rfl, by omega, by omega, by simp, rfl, rfl, HJ⟩
  case round =>
    clear HJ
    obtain ⟨i, LM, rfl, hi, hi10, hLM, rfl, rfl, HJ⟩ := hrel
    have hFL := frames_len LM HJ.out.tl
    obtain ⟨F, hF⟩ : ∃ F, F = (framesN LM).length := ⟨_, rfl⟩
    rw [← hF] at hFL
    have hF9 : F ≤ 9020 := by omega
    have HFF := Lib.hid hF
    obtain ⟨AV, cV, rfl, hcV, hsV⟩ := own_shape (show wr.ownsRow (w.heap.size + 1) 5 1 _ F (u8s (framesN LM)) by rw [hF]; exact HJ.out.own)
    obtain ⟨N, hN⟩ : ∃ N, N = LM.length := ⟨_, rfl⟩
    obtain ⟨la, hla⟩ : ∃ la, la = lastL LM := ⟨_, rfl⟩
    rw [← hN] at hLM ⊢
    rw [← hla]
    have HNN := Lib.hid hN
    have HLA := Lib.hid hla
    clear hF hN hla hFL
    by_cases hgo : i < len ∧ i < 10
    · obtain ⟨g1, g2⟩ := hgo
      have i1 : (i : Int) < (len : Int) := by omega
      have i2 : (i : Int) < 10 := by omega
      have i3 : (0 : Int) ≤ (i : Int) := by omega
      have hk : i < L.length := by have := HRW.out.en; omega
      obtain ⟨b, off, rfl, hbl, hc⟩ := (HRW.out.bel HJ.out.bel).at hk
      obtain ⟨q, hqd⟩ : ∃ q, q = L[i] := ⟨_, rfl⟩
      rw [← hqd] at hc
      have HMq := Lib.hid (show Mg wr q.m q.A q.n q.c from (HQ.out q (by rw [hqd]; exact List.getElem_mem hk)).bel HJ.out.bel)
      have y0 : wr.cell? ⟨b, off + i * 10, none⟩ = some (.int .i64 q.m.kind) := hc 0 (by decide)
      have y1 : wr.cell? ⟨b, off + i * 10 + 1, none⟩ = some (.int .i64 q.m.n0) := hc 1 (by decide)
      have y2 : wr.cell? ⟨b, off + i * 10 + 2, none⟩ = some (.int .i64 q.m.n1) := hc 2 (by decide)
      have y3 : wr.cell? ⟨b, off + i * 10 + 3, none⟩ = some (.int .i64 q.m.n2) := hc 3 (by decide)
      have y4 : wr.cell? ⟨b, off + i * 10 + 4, none⟩ = some (.int .i64 q.m.n3) := hc 4 (by decide)
      have y5 : wr.cell? ⟨b, off + i * 10 + 5, none⟩ = some (.int .i64 q.m.n4) := hc 5 (by decide)
      have y6 : wr.cell? ⟨b, off + i * 10 + 6, none⟩ = some (.int .i64 q.m.n5) := hc 6 (by decide)
      have y7 : wr.cell? ⟨b, off + i * 10 + 7, none⟩ = some (.slice q.A q.n q.c) := hc 7 (by decide)
      have y8 : wr.cell? ⟨b, off + i * 10 + 8, none⟩ = some (.bool q.m.ok) := hc 8 (by decide)
      have y9 : wr.cell? ⟨b, off + i * 10 + 9, none⟩ = some (.int .i64 q.m.n6) := hc 9 (by decide)
      have C1 := few_any q.m q.A q.n q.c wr HMq.out
      unfold msgC at C1
      have C1 := Lib.hid C1
      clear hc hqd hk hsV
      go_wp2_with fail
      refine C1.out.mono ?_
      rintro e w2 ⟨⟨A2, c2, rfl, hm2, _⟩, hb2⟩
      obtain ⟨M, hM⟩ : ∃ M, M = fewM q.m := ⟨_, rfl⟩
      rw [← hM] at hm2 ⊢
      obtain ⟨k, hk⟩ : ∃ k, k = M.ents.length := ⟨_, rfl⟩
      rw [← hk] at hm2 ⊢
      have HJ2 := Lib.hid (HJ.out.next hb2)
      have HM2 := Lib.hid hm2
      clear hb2 hM hm2 hk C1 y0 y1 y2 y3 y4 y5 y6 y7 y8 y9
      by_cases hck : checkN M = 0
      · have C1 := Lib.hid (wframe_ok M A2 k c2 w2 HM2.out hck)
        have HTL := Lib.hid (show Told M from ⟨hck, HM2.out.bm, fun e he => (HM2.out.be e he).1⟩)
        have hfl : (frameN M).length ≤ 902 := by rw [frameN_len]; have := encN_len hck; omega
        obtain ⟨fl, hfld⟩ : ∃ fl, fl = (frameN M).length := ⟨_, rfl⟩
        rw [← hfld] at C1 hfl
        have HFL := Lib.hid hfld
        clear hck hfld
        unfold msgC at C1
        go_wp2_with fail
        refine C1.out.mono ?_
        rintro e w3 ⟨⟨A3, c3, rfl, hc3, hs3, _⟩, hb3⟩
        have HJ3 := Lib.hid (HJ2.out.next hb3)
        have HS3 := Lib.hid hs3
        have hbig := HJ3.out.big
        clear hb3 hs3 C1
        go_wp2_with (at_builtin; refine wpList_append_seg _ rfl (.tmp 39) (.tmp 40) _ rfl (w.heap.size + 1) 5 i0 _ 1 Try.underlying26 hi0 hz0 hz1 hz2 rfl _ F _ rfl (by rw [HFF.out]; have := HJ3.out.own; rw [← HFF.out] at this ⊢; exact this) A3 fl c3 (u8s (frameN M)) rfl (by rw [u8s_length, ← HFL.out]) HS3.out (u8s_one _) (by simp only [maxLen]; omega) (by omega) hbig ?_; intro v4 w4 hown4 hb4)
        have HJ4 := Lib.hid (show JnS w (LM ++ [M]) v4 w4 from HJ3.out.app HTL.out (by rw [← HFF.out, ← HFL.out]; exact hown4) hb4)
        clear hown4 hb4
        go_roundw
        case rel => exact ⟨i + 1, LM ++ [M], by go_num, by omega, by omega, by rw [List.length_append, ← HNN.out]; simp; omega, by rw [List.length_append, ← HNN.out]; rfl, by rw [lastL_snoc, ← HFL.out], HJ4⟩
        case measure => simp [intOf]; omega
      · have C1 := wframe_no M A2 k c2 w2 HM2.out hck
        obtain ⟨ck, hckd⟩ : ∃ ck, ck = checkN M := ⟨_, rfl⟩
        rw [← hckd] at C1 hck
        have i5 : ((ck : Int) == 0) = false := by rw [beq_eq_false_iff_ne]; omega
        have C1 := Lib.hid C1
        clear hck hckd
        unfold msgC at C1
        go_wp2_with fail
        refine C1.out.mono ?_
        rintro e w3 ⟨rfl, hb3⟩
        have HJ3 := Lib.hid (HJ2.out.next hb3)
        clear hb3 C1
        go_wp2_with fail
        go_roundw
        case rel => exact ⟨i + 1, LM, by go_num, by omega, by omega, by rw [← HNN.out]; omega, by rw [← HNN.out], by rw [← HLA.out], HJ3⟩
        case measure => simp [intOf]; omega
    · clear hlc hz
      by_cases hil : i < len
      · have i1 : (i : Int) < (len : Int) := by omega
        have i2 : ¬ (i : Int) < 10 := by omega
        by_cases hN0 : N = 0
        · subst hN0
          have C1 := Lib.hid (wawake_any wr)
          go_wp2_with fail
          refine C1.out.mono ?_
          rintro e w2 ⟨rfl, hb2⟩
          have HB2 := Lib.hid (HJ.out.bel.trans (hb2.mono HJ.out.bel.size))
          clear hb2 C1
          go_wp2_with fail
          go_ret
          exact ⟨rfl, HB2.out⟩
        · obtain ⟨LP, m, hLP⟩ : ∃ LP m, LM = LP ++ [m] := by
            rcases List.eq_nil_or_concat LM with h | ⟨LP, m, h⟩
            · rw [h] at HNN
              exact absurd HNN.out hN0
            · exact ⟨LP, m, by rw [h]; simp⟩
          subst hLP
          have HL2 := Lib.hid (show la = (frameN m).length by rw [HLA.out, lastL_snoc])
          have hla3 : 2 ≤ la := by rw [HL2.out, frameN_len]; omega
          have hla9 : la ≤ 902 := by rw [HL2.out, frameN_len]; have := encN_len (HJ.out.tl m (by simp)).ck; omega
          have HF2 := Lib.hid (show F = (framesN LP).length + la by rw [HFF.out, framesN_append, List.length_append, HL2.out, framesN, framesN, List.append_nil])
          have HN2 := Lib.hid (show N = LP.length + 1 by rw [HNN.out, List.length_append]; rfl)
          have HE := Lib.hid (show framesN (LP ++ [m]) = framesN LP ++ frameN m by rw [framesN_append, framesN, framesN, List.append_nil])
          have HSV := Lib.hid hsV
          have HVF := Lib.hid (own_fresh (show wr.ownsRow (w.heap.size + 1) 5 1 (.slice AV F cV) F (u8s (framesN (LP ++ [m]))) by have h1 := HJ.out.own; rw [← HFF.out] at h1; exact h1))
          obtain ⟨N1, rfl⟩ : ∃ N1, N = N1 + 1 := ⟨LP.length, HN2.out⟩
          have HN1 := Lib.hid (show N1 = LP.length by have := HN2.out; omega)
          have j1 : ((N1 : Int) + 1 == 0) = false := by rw [beq_eq_false_iff_ne]; omega
          have j2 : ((la : Int) == 0) = false := by rw [beq_eq_false_iff_ne]; omega
          obtain ⟨c1, c2⟩ := hcut
          clear hsV
          by_cases hc1 : (la : Int) < cut
          · have q1 : (1 : Int) < (la : Int) := by omega
            have hk1 : 1 ≤ la := by omega
            have hk2 : la ≤ la := by omega
            obtain ⟨D, hD⟩ : ∃ D, D = F - la := ⟨_, rfl⟩
            obtain ⟨R, hR⟩ : ∃ R, R = la - la := ⟨_, rfl⟩
            have hFD := HF2.out
            have d1 : (F : Int) - (la : Int) = (D : Int) := by omega
            have d2 : (la : Int) - (la : Int) = (R : Int) := by omega
            have hDF : D ≤ F := by omega
            have hDc : (D : Int) ≤ (cV : Int) := by omega
            have hDF' : (D : Int) ≤ (F : Int) := by omega
            have hlr := HL2.out
            have HRL := Lib.hid (show R < (frameN m).length by omega)
            have hbytes : (u8s (framesN (LP ++ [m]))).take D = u8s (framesN LP ++ (frameN m).take R) := by
              rw [HE.out, show D = (framesN LP).length + R by omega]
              unfold u8s
              rw [← List.map_take, List.take_length_add_append]
            have hrest : (u8s (framesN (LP ++ [m]))).drop D = u8s ((frameN m).drop R) := by
              rw [HE.out, show D = (framesN LP).length + R by omega]
              unfold u8s
              rw [← List.map_drop, List.drop_length_add_append]
            have HTL := Lib.hid HJ.out.tl
            have HLTm := Lib.hid (frames_lt _ HTL.out)
            have hs1 := HSV.out.take D
            rw [hbytes] at hs1
            have hmt : ∀ x ∈ framesN LP ++ (frameN m).take R, x < 256 := fun x hx => HLTm.out x (by
              rw [HE.out]
              rcases List.mem_append.1 hx with hx | hx
              · exact List.mem_append_left _ hx
              · exact List.mem_append_right _ (List.mem_of_mem_take hx))
            have hmd : ∀ x ∈ (frameN m).drop R, x < 256 := fun x hx => HLTm.out x (by rw [HE.out]; exact List.mem_append_right _ (List.mem_of_mem_drop hx))
            have hmk : ∀ x ∈ (frameN m).take R, x < 256 := fun x hx => HLTm.out x (by rw [HE.out]; exact List.mem_append_right _ (List.mem_of_mem_take hx))
            have HMD := Lib.hid hmd
            have HMK := Lib.hid hmk
            have C1 := feed_any w.heap.size [] 0 AV D cV (framesN LP ++ (frameN m).take R) (by rw [List.length_append, List.length_take]; omega) (by omega) (by simp) (by omega) (fun x hx => absurd hx List.not_mem_nil) hmt wr HJ.out.st hs1
            unfold FeedPost at C1
            rw [run_but LP m R (fun x hx => HTL.out x (List.mem_append_left _ hx)) (HTL.out m (by simp)) HRL.out] at C1
            dsimp only at C1
            rw [show ((0 : Nat) : Int) = 0 from rfl] at C1
            have C1 := Lib.hid C1
            obtain ⟨A7, hA7⟩ : ∃ A7, A7 = if cV = D then AV else AV.map (·.add D) := ⟨_, rfl⟩
            have hcut7 := Lib.hid (show ∀ w', Seg w' AV (u8s (framesN (LP ++ [m]))) → Seg w' A7 (u8s ((frameN m).drop R)) from fun w' hs => by
              rw [hA7, ← hrest]
              exact hs.cut D cV (by rw [u8s_length, HE.out, List.length_append]; omega))
            have HA7F := Lib.hid (show F - D = ((frameN m).drop R).length by rw [List.length_drop]; omega)
            have hsl : ∀ w : World, (Instr.sliceAt 26 (.slice AV F cV) (some (.int .i64 (D : Int))) none none).run Try.prog w = .ok (.slice A7 (F - D) (cV - D)) w := fun w => by
              have hu : Try.prog.underlying 26 = some (.slice (Try.prog.elem 26)) := by kernel_rfl
              have he : Try.prog.elem 26 = 5 := by kernel_rfl
              obtain ⟨i0, hi0, hz0, hz1, hz2⟩ := info_parts info5
              rw [run_sliceAt_slice (P := Try.prog) w 26 _ _ _ _ hu, run_slice_l (P := Try.prog) w 26 AV F cV hu .i64 (D : Int) (by omega) (by omega), he]
              have hsz5 : (sizeOf 5).run Try.prog w = .ok 1 w := by simp [sizeOf, typeInfo, hi0, hz1]
              rw [hsz5, hA7]
              simp [Result.andThen, sliced]
            have hRt : ((frameN m).take R).length = R := by rw [List.length_take]; omega
            have HRT := Lib.hid hRt
            have hRb : R ≤ 902 := by omega
            have HRB := Lib.hid (show R ≤ 902 by omega)
            have hFDk : F - D ≤ 20000 := by omega
            have hFDc : F - D ≤ cV - D := by omega
            clear hD hR hFD hlr hbytes hrest hs1 hmt hmd hmk hA7 hRt hla3 hla9
            go_wp2_with fail
            refine C1.out.mono ?_
            rintro e w2 ⟨⟨AM, cm, Lm, rfl, hLm, hlm, -, -, -⟩, hst, hkq⟩
            have hll : Lm.length = N1 := by rw [HN1.out, ← hLm, List.length_map]
            rw [hll] at hlm ⊢
            have HST2 := Lib.hid hst
            have HB2 := Lib.hid (HJ.out.bel.trans hkq.bel)
            have HS2 := Lib.hid (hcut7.out w2 (HSV.out.kept hkq.kept (fun a e => by have := HVF.out a e; omega)))
            have CR := rest_any w.heap.size ((frameN m).take R) 0 w2 HST2.out
            rw [HRT.out] at CR
            have CR := Lib.hid CR
            have C2 := feed_any w.heap.size ((frameN m).take R) 0 A7 (F - D) (cV - D) ((frameN m).drop R) HA7F.out hFDc (by rw [HRT.out]; have := HRB.out; omega) hFDk HMK.out HMD.out w2 HST2.out HS2.out
            unfold FeedPost at C2
            rw [run_rest m R (HTL.out m (by simp))] at C2
            dsimp only at C2
            rw [show ((0 : Nat) : Int) = 0 from rfl] at C2
            have C2 := Lib.hid C2
            clear hst hkq hLm hll C1
            go_wp2_with fail
            refine CR.out.mono ?_
            rintro e w3 ⟨rfl, hw3⟩
            subst hw3
            clear CR
            go_wp2_with fail
            refine C2.out.mono ?_
            rintro e w4 ⟨⟨AN, cn, Ln, rfl, hLn, hln, -, -, -⟩, hst, hkq⟩
            have hll : Ln.length = 1 := by rw [← List.length_map (f := Mq.m), hLn]; rfl
            rw [hll] at hln ⊢
            have HST4 := Lib.hid hst
            have HB4 := Lib.hid (HB2.out.trans hkq.bel)
            clear hst hkq hLn hll C2
            go_wp2_with fail
            refine (wawake_any w4).mono ?_
            rintro e w5 ⟨rfl, hb5⟩
            have HST5 := Lib.hid (HST4.out.bel hb5)
            have HB5 := Lib.hid (HB4.out.trans (hb5.mono HB4.out.size))
            clear hb5
            have CR := Lib.hid (rest_any w.heap.size [] 0 w5 HST5.out)
            go_wp2_with fail
            refine CR.out.mono ?_
            rintro e w6 ⟨rfl, hw6⟩
            subst hw6
            clear CR
            go_wp2_with fail
            go_ret
            exact ⟨rfl, HB5.out⟩
          · by_cases hc2 : 1 < cut
            · obtain ⟨k, rfl⟩ : ∃ k : Nat, cut = (k : Int) := ⟨cut.toNat, by omega⟩
              have hk1 : 1 ≤ k := by omega
              have hk2 : k ≤ la := by omega
              obtain ⟨D, hD⟩ : ∃ D, D = F - k := ⟨_, rfl⟩
              obtain ⟨R, hR⟩ : ∃ R, R = la - k := ⟨_, rfl⟩
              have hFD := HF2.out
              have d1 : (F : Int) - (k : Int) = (D : Int) := by omega
              have d2 : (la : Int) - (k : Int) = (R : Int) := by omega
              have hDF : D ≤ F := by omega
              have hDc : (D : Int) ≤ (cV : Int) := by omega
              have hDF' : (D : Int) ≤ (F : Int) := by omega
              have hlr := HL2.out
              have HRL := Lib.hid (show R < (frameN m).length by omega)
              have hbytes : (u8s (framesN (LP ++ [m]))).take D = u8s (framesN LP ++ (frameN m).take R) := by
                rw [HE.out, show D = (framesN LP).length + R by omega]
                unfold u8s
                rw [← List.map_take, List.take_length_add_append]
              have hrest : (u8s (framesN (LP ++ [m]))).drop D = u8s ((frameN m).drop R) := by
                rw [HE.out, show D = (framesN LP).length + R by omega]
                unfold u8s
                rw [← List.map_drop, List.drop_length_add_append]
              have HTL := Lib.hid HJ.out.tl
              have HLTm := Lib.hid (frames_lt _ HTL.out)
              have hs1 := HSV.out.take D
              rw [hbytes] at hs1
              have hmt : ∀ x ∈ framesN LP ++ (frameN m).take R, x < 256 := fun x hx => HLTm.out x (by
                rw [HE.out]
                rcases List.mem_append.1 hx with hx | hx
                · exact List.mem_append_left _ hx
                · exact List.mem_append_right _ (List.mem_of_mem_take hx))
              have hmd : ∀ x ∈ (frameN m).drop R, x < 256 := fun x hx => HLTm.out x (by rw [HE.out]; exact List.mem_append_right _ (List.mem_of_mem_drop hx))
              have hmk : ∀ x ∈ (frameN m).take R, x < 256 := fun x hx => HLTm.out x (by rw [HE.out]; exact List.mem_append_right _ (List.mem_of_mem_take hx))
              have HMD := Lib.hid hmd
              have HMK := Lib.hid hmk
              have C1 := feed_any w.heap.size [] 0 AV D cV (framesN LP ++ (frameN m).take R) (by rw [List.length_append, List.length_take]; omega) (by omega) (by simp) (by omega) (fun x hx => absurd hx List.not_mem_nil) hmt wr HJ.out.st hs1
              unfold FeedPost at C1
              rw [run_but LP m R (fun x hx => HTL.out x (List.mem_append_left _ hx)) (HTL.out m (by simp)) HRL.out] at C1
              dsimp only at C1
              rw [show ((0 : Nat) : Int) = 0 from rfl] at C1
              have C1 := Lib.hid C1
              obtain ⟨A7, hA7⟩ : ∃ A7, A7 = if cV = D then AV else AV.map (·.add D) := ⟨_, rfl⟩
              have hcut7 := Lib.hid (show ∀ w', Seg w' AV (u8s (framesN (LP ++ [m]))) → Seg w' A7 (u8s ((frameN m).drop R)) from fun w' hs => by
                rw [hA7, ← hrest]
                exact hs.cut D cV (by rw [u8s_length, HE.out, List.length_append]; omega))
              have HA7F := Lib.hid (show F - D = ((frameN m).drop R).length by rw [List.length_drop]; omega)
              have hsl : ∀ w : World, (Instr.sliceAt 26 (.slice AV F cV) (some (.int .i64 (D : Int))) none none).run Try.prog w = .ok (.slice A7 (F - D) (cV - D)) w := fun w => by
                have hu : Try.prog.underlying 26 = some (.slice (Try.prog.elem 26)) := by kernel_rfl
                have he : Try.prog.elem 26 = 5 := by kernel_rfl
                obtain ⟨i0, hi0, hz0, hz1, hz2⟩ := info_parts info5
                rw [run_sliceAt_slice (P := Try.prog) w 26 _ _ _ _ hu, run_slice_l (P := Try.prog) w 26 AV F cV hu .i64 (D : Int) (by omega) (by omega), he]
                have hsz5 : (sizeOf 5).run Try.prog w = .ok 1 w := by simp [sizeOf, typeInfo, hi0, hz1]
                rw [hsz5, hA7]
                simp [Result.andThen, sliced]
              have hRt : ((frameN m).take R).length = R := by rw [List.length_take]; omega
              have HRT := Lib.hid hRt
              have hRb : R ≤ 902 := by omega
              have HRB := Lib.hid (show R ≤ 902 by omega)
              have hFDk : F - D ≤ 20000 := by omega
              have hFDc : F - D ≤ cV - D := by omega
              clear hD hR hFD hlr hbytes hrest hs1 hmt hmd hmk hA7 hRt hla3 hla9
              go_wp2_with fail
              refine C1.out.mono ?_
              rintro e w2 ⟨⟨AM, cm, Lm, rfl, hLm, hlm, -, -, -⟩, hst, hkq⟩
              have hll : Lm.length = N1 := by rw [HN1.out, ← hLm, List.length_map]
              rw [hll] at hlm ⊢
              have HST2 := Lib.hid hst
              have HB2 := Lib.hid (HJ.out.bel.trans hkq.bel)
              have HS2 := Lib.hid (hcut7.out w2 (HSV.out.kept hkq.kept (fun a e => by have := HVF.out a e; omega)))
              have CR := rest_any w.heap.size ((frameN m).take R) 0 w2 HST2.out
              rw [HRT.out] at CR
              have CR := Lib.hid CR
              have C2 := feed_any w.heap.size ((frameN m).take R) 0 A7 (F - D) (cV - D) ((frameN m).drop R) HA7F.out hFDc (by rw [HRT.out]; have := HRB.out; omega) hFDk HMK.out HMD.out w2 HST2.out HS2.out
              unfold FeedPost at C2
              rw [run_rest m R (HTL.out m (by simp))] at C2
              dsimp only at C2
              rw [show ((0 : Nat) : Int) = 0 from rfl] at C2
              have C2 := Lib.hid C2
              clear hst hkq hLm hll C1
              go_wp2_with fail
              refine CR.out.mono ?_
              rintro e w3 ⟨rfl, hw3⟩
              subst hw3
              clear CR
              go_wp2_with fail
              refine C2.out.mono ?_
              rintro e w4 ⟨⟨AN, cn, Ln, rfl, hLn, hln, -, -, -⟩, hst, hkq⟩
              have hll : Ln.length = 1 := by rw [← List.length_map (f := Mq.m), hLn]; rfl
              rw [hll] at hln ⊢
              have HST4 := Lib.hid hst
              have HB4 := Lib.hid (HB2.out.trans hkq.bel)
              clear hst hkq hLn hll C2
              go_wp2_with fail
              refine (wawake_any w4).mono ?_
              rintro e w5 ⟨rfl, hb5⟩
              have HST5 := Lib.hid (HST4.out.bel hb5)
              have HB5 := Lib.hid (HB4.out.trans (hb5.mono HB4.out.size))
              clear hb5
              have CR := Lib.hid (rest_any w.heap.size [] 0 w5 HST5.out)
              go_wp2_with fail
              refine CR.out.mono ?_
              rintro e w6 ⟨rfl, hw6⟩
              subst hw6
              clear CR
              go_wp2_with fail
              go_ret
              exact ⟨rfl, HB5.out⟩
            · have hk1 : 1 ≤ 1 := by omega
              have hk2 : 1 ≤ la := by omega
              obtain ⟨D, hD⟩ : ∃ D, D = F - 1 := ⟨_, rfl⟩
              obtain ⟨R, hR⟩ : ∃ R, R = la - 1 := ⟨_, rfl⟩
              have hFD := HF2.out
              have d1 : (F : Int) - 1 = (D : Int) := by omega
              have d2 : (la : Int) - 1 = (R : Int) := by omega
              have hDF : D ≤ F := by omega
              have hDc : (D : Int) ≤ (cV : Int) := by omega
              have hDF' : (D : Int) ≤ (F : Int) := by omega
              have hlr := HL2.out
              have HRL := Lib.hid (show R < (frameN m).length by omega)
              have hbytes : (u8s (framesN (LP ++ [m]))).take D = u8s (framesN LP ++ (frameN m).take R) := by
                rw [HE.out, show D = (framesN LP).length + R by omega]
                unfold u8s
                rw [← List.map_take, List.take_length_add_append]
              have hrest : (u8s (framesN (LP ++ [m]))).drop D = u8s ((frameN m).drop R) := by
                rw [HE.out, show D = (framesN LP).length + R by omega]
                unfold u8s
                rw [← List.map_drop, List.drop_length_add_append]
              have HTL := Lib.hid HJ.out.tl
              have HLTm := Lib.hid (frames_lt _ HTL.out)
              have hs1 := HSV.out.take D
              rw [hbytes] at hs1
              have hmt : ∀ x ∈ framesN LP ++ (frameN m).take R, x < 256 := fun x hx => HLTm.out x (by
                rw [HE.out]
                rcases List.mem_append.1 hx with hx | hx
                · exact List.mem_append_left _ hx
                · exact List.mem_append_right _ (List.mem_of_mem_take hx))
              have hmd : ∀ x ∈ (frameN m).drop R, x < 256 := fun x hx => HLTm.out x (by rw [HE.out]; exact List.mem_append_right _ (List.mem_of_mem_drop hx))
              have hmk : ∀ x ∈ (frameN m).take R, x < 256 := fun x hx => HLTm.out x (by rw [HE.out]; exact List.mem_append_right _ (List.mem_of_mem_take hx))
              have HMD := Lib.hid hmd
              have HMK := Lib.hid hmk
              have C1 := feed_any w.heap.size [] 0 AV D cV (framesN LP ++ (frameN m).take R) (by rw [List.length_append, List.length_take]; omega) (by omega) (by simp) (by omega) (fun x hx => absurd hx List.not_mem_nil) hmt wr HJ.out.st hs1
              unfold FeedPost at C1
              rw [run_but LP m R (fun x hx => HTL.out x (List.mem_append_left _ hx)) (HTL.out m (by simp)) HRL.out] at C1
              dsimp only at C1
              rw [show ((0 : Nat) : Int) = 0 from rfl] at C1
              have C1 := Lib.hid C1
              obtain ⟨A7, hA7⟩ : ∃ A7, A7 = if cV = D then AV else AV.map (·.add D) := ⟨_, rfl⟩
              have hcut7 := Lib.hid (show ∀ w', Seg w' AV (u8s (framesN (LP ++ [m]))) → Seg w' A7 (u8s ((frameN m).drop R)) from fun w' hs => by
                rw [hA7, ← hrest]
                exact hs.cut D cV (by rw [u8s_length, HE.out, List.length_append]; omega))
              have HA7F := Lib.hid (show F - D = ((frameN m).drop R).length by rw [List.length_drop]; omega)
              have hsl : ∀ w : World, (Instr.sliceAt 26 (.slice AV F cV) (some (.int .i64 (D : Int))) none none).run Try.prog w = .ok (.slice A7 (F - D) (cV - D)) w := fun w => by
                have hu : Try.prog.underlying 26 = some (.slice (Try.prog.elem 26)) := by kernel_rfl
                have he : Try.prog.elem 26 = 5 := by kernel_rfl
                obtain ⟨i0, hi0, hz0, hz1, hz2⟩ := info_parts info5
                rw [run_sliceAt_slice (P := Try.prog) w 26 _ _ _ _ hu, run_slice_l (P := Try.prog) w 26 AV F cV hu .i64 (D : Int) (by omega) (by omega), he]
                have hsz5 : (sizeOf 5).run Try.prog w = .ok 1 w := by simp [sizeOf, typeInfo, hi0, hz1]
                rw [hsz5, hA7]
                simp [Result.andThen, sliced]
              have hRt : ((frameN m).take R).length = R := by rw [List.length_take]; omega
              have HRT := Lib.hid hRt
              have hRb : R ≤ 902 := by omega
              have HRB := Lib.hid (show R ≤ 902 by omega)
              have hFDk : F - D ≤ 20000 := by omega
              have hFDc : F - D ≤ cV - D := by omega
              clear hD hR hFD hlr hbytes hrest hs1 hmt hmd hmk hA7 hRt hla3 hla9
              go_wp2_with fail
              refine C1.out.mono ?_
              rintro e w2 ⟨⟨AM, cm, Lm, rfl, hLm, hlm, -, -, -⟩, hst, hkq⟩
              have hll : Lm.length = N1 := by rw [HN1.out, ← hLm, List.length_map]
              rw [hll] at hlm ⊢
              have HST2 := Lib.hid hst
              have HB2 := Lib.hid (HJ.out.bel.trans hkq.bel)
              have HS2 := Lib.hid (hcut7.out w2 (HSV.out.kept hkq.kept (fun a e => by have := HVF.out a e; omega)))
              have CR := rest_any w.heap.size ((frameN m).take R) 0 w2 HST2.out
              rw [HRT.out] at CR
              have CR := Lib.hid CR
              have C2 := feed_any w.heap.size ((frameN m).take R) 0 A7 (F - D) (cV - D) ((frameN m).drop R) HA7F.out hFDc (by rw [HRT.out]; have := HRB.out; omega) hFDk HMK.out HMD.out w2 HST2.out HS2.out
              unfold FeedPost at C2
              rw [run_rest m R (HTL.out m (by simp))] at C2
              dsimp only at C2
              rw [show ((0 : Nat) : Int) = 0 from rfl] at C2
              have C2 := Lib.hid C2
              clear hst hkq hLm hll C1
              go_wp2_with fail
              refine CR.out.mono ?_
              rintro e w3 ⟨rfl, hw3⟩
              subst hw3
              clear CR
              go_wp2_with fail
              refine C2.out.mono ?_
              rintro e w4 ⟨⟨AN, cn, Ln, rfl, hLn, hln, -, -, -⟩, hst, hkq⟩
              have hll : Ln.length = 1 := by rw [← List.length_map (f := Mq.m), hLn]; rfl
              rw [hll] at hln ⊢
              have HST4 := Lib.hid hst
              have HB4 := Lib.hid (HB2.out.trans hkq.bel)
              clear hst hkq hLn hll C2
              go_wp2_with fail
              refine (wawake_any w4).mono ?_
              rintro e w5 ⟨rfl, hb5⟩
              have HST5 := Lib.hid (HST4.out.bel hb5)
              have HB5 := Lib.hid (HB4.out.trans (hb5.mono HB4.out.size))
              clear hb5
              have CR := Lib.hid (rest_any w.heap.size [] 0 w5 HST5.out)
              go_wp2_with fail
              refine CR.out.mono ?_
              rintro e w6 ⟨rfl, hw6⟩
              subst hw6
              clear CR
              go_wp2_with fail
              go_ret
              exact ⟨rfl, HB5.out⟩
      · have i1 : ¬ (i : Int) < (len : Int) := by omega
        by_cases hN0 : N = 0
        · subst hN0
          have C1 := Lib.hid (wawake_any wr)
          go_wp2_with fail
          refine C1.out.mono ?_
          rintro e w2 ⟨rfl, hb2⟩
          have HB2 := Lib.hid (HJ.out.bel.trans (hb2.mono HJ.out.bel.size))
          clear hb2 C1
          go_wp2_with fail
          go_ret
          exact ⟨rfl, HB2.out⟩
        · obtain ⟨LP, m, hLP⟩ : ∃ LP m, LM = LP ++ [m] := by
            rcases List.eq_nil_or_concat LM with h | ⟨LP, m, h⟩
            · rw [h] at HNN
              exact absurd HNN.out hN0
            · exact ⟨LP, m, by rw [h]; simp⟩
          subst hLP
          have HL2 := Lib.hid (show la = (frameN m).length by rw [HLA.out, lastL_snoc])
          have hla3 : 2 ≤ la := by rw [HL2.out, frameN_len]; omega
          have hla9 : la ≤ 902 := by rw [HL2.out, frameN_len]; have := encN_len (HJ.out.tl m (by simp)).ck; omega
          have HF2 := Lib.hid (show F = (framesN LP).length + la by rw [HFF.out, framesN_append, List.length_append, HL2.out, framesN, framesN, List.append_nil])
          have HN2 := Lib.hid (show N = LP.length + 1 by rw [HNN.out, List.length_append]; rfl)
          have HE := Lib.hid (show framesN (LP ++ [m]) = framesN LP ++ frameN m by rw [framesN_append, framesN, framesN, List.append_nil])
          have HSV := Lib.hid hsV
          have HVF := Lib.hid (own_fresh (show wr.ownsRow (w.heap.size + 1) 5 1 (.slice AV F cV) F (u8s (framesN (LP ++ [m]))) by have h1 := HJ.out.own; rw [← HFF.out] at h1; exact h1))
          obtain ⟨N1, rfl⟩ : ∃ N1, N = N1 + 1 := ⟨LP.length, HN2.out⟩
          have HN1 := Lib.hid (show N1 = LP.length by have := HN2.out; omega)
          have j1 : ((N1 : Int) + 1 == 0) = false := by rw [beq_eq_false_iff_ne]; omega
          have j2 : ((la : Int) == 0) = false := by rw [beq_eq_false_iff_ne]; omega
          obtain ⟨c1, c2⟩ := hcut
          clear hsV
          by_cases hc1 : (la : Int) < cut
          · have q1 : (1 : Int) < (la : Int) := by omega
            have hk1 : 1 ≤ la := by omega
            have hk2 : la ≤ la := by omega
            obtain ⟨D, hD⟩ : ∃ D, D = F - la := ⟨_, rfl⟩
            obtain ⟨R, hR⟩ : ∃ R, R = la - la := ⟨_, rfl⟩
            have hFD := HF2.out
            have d1 : (F : Int) - (la : Int) = (D : Int) := by omega
            have d2 : (la : Int) - (la : Int) = (R : Int) := by omega
            have hDF : D ≤ F := by omega
            have hDc : (D : Int) ≤ (cV : Int) := by omega
            have hDF' : (D : Int) ≤ (F : Int) := by omega
            have hlr := HL2.out
            have HRL := Lib.hid (show R < (frameN m).length by omega)
            have hbytes : (u8s (framesN (LP ++ [m]))).take D = u8s (framesN LP ++ (frameN m).take R) := by
              rw [HE.out, show D = (framesN LP).length + R by omega]
              unfold u8s
              rw [← List.map_take, List.take_length_add_append]
            have hrest : (u8s (framesN (LP ++ [m]))).drop D = u8s ((frameN m).drop R) := by
              rw [HE.out, show D = (framesN LP).length + R by omega]
              unfold u8s
              rw [← List.map_drop, List.drop_length_add_append]
            have HTL := Lib.hid HJ.out.tl
            have HLTm := Lib.hid (frames_lt _ HTL.out)
            have hs1 := HSV.out.take D
            rw [hbytes] at hs1
            have hmt : ∀ x ∈ framesN LP ++ (frameN m).take R, x < 256 := fun x hx => HLTm.out x (by
              rw [HE.out]
              rcases List.mem_append.1 hx with hx | hx
              · exact List.mem_append_left _ hx
              · exact List.mem_append_right _ (List.mem_of_mem_take hx))
            have hmd : ∀ x ∈ (frameN m).drop R, x < 256 := fun x hx => HLTm.out x (by rw [HE.out]; exact List.mem_append_right _ (List.mem_of_mem_drop hx))
            have hmk : ∀ x ∈ (frameN m).take R, x < 256 := fun x hx => HLTm.out x (by rw [HE.out]; exact List.mem_append_right _ (List.mem_of_mem_take hx))
            have HMD := Lib.hid hmd
            have HMK := Lib.hid hmk
            have C1 := feed_any w.heap.size [] 0 AV D cV (framesN LP ++ (frameN m).take R) (by rw [List.length_append, List.length_take]; omega) (by omega) (by simp) (by omega) (fun x hx => absurd hx List.not_mem_nil) hmt wr HJ.out.st hs1
            unfold FeedPost at C1
            rw [run_but LP m R (fun x hx => HTL.out x (List.mem_append_left _ hx)) (HTL.out m (by simp)) HRL.out] at C1
            dsimp only at C1
            rw [show ((0 : Nat) : Int) = 0 from rfl] at C1
            have C1 := Lib.hid C1
            obtain ⟨A7, hA7⟩ : ∃ A7, A7 = if cV = D then AV else AV.map (·.add D) := ⟨_, rfl⟩
            have hcut7 := Lib.hid (show ∀ w', Seg w' AV (u8s (framesN (LP ++ [m]))) → Seg w' A7 (u8s ((frameN m).drop R)) from fun w' hs => by
              rw [hA7, ← hrest]
              exact hs.cut D cV (by rw [u8s_length, HE.out, List.length_append]; omega))
            have HA7F := Lib.hid (show F - D = ((frameN m).drop R).length by rw [List.length_drop]; omega)
            have hsl : ∀ w : World, (Instr.sliceAt 26 (.slice AV F cV) (some (.int .i64 (D : Int))) none none).run Try.prog w = .ok (.slice A7 (F - D) (cV - D)) w := fun w => by
              have hu : Try.prog.underlying 26 = some (.slice (Try.prog.elem 26)) := by kernel_rfl
              have he : Try.prog.elem 26 = 5 := by kernel_rfl
              obtain ⟨i0, hi0, hz0, hz1, hz2⟩ := info_parts info5
              rw [run_sliceAt_slice (P := Try.prog) w 26 _ _ _ _ hu, run_slice_l (P := Try.prog) w 26 AV F cV hu .i64 (D : Int) (by omega) (by omega), he]
              have hsz5 : (sizeOf 5).run Try.prog w = .ok 1 w := by simp [sizeOf, typeInfo, hi0, hz1]
              rw [hsz5, hA7]
              simp [Result.andThen, sliced]
            have hRt : ((frameN m).take R).length = R := by rw [List.length_take]; omega
            have HRT := Lib.hid hRt
            have hRb : R ≤ 902 := by omega
            have HRB := Lib.hid (show R ≤ 902 by omega)
            have hFDk : F - D ≤ 20000 := by omega
            have hFDc : F - D ≤ cV - D := by omega
            clear hD hR hFD hlr hbytes hrest hs1 hmt hmd hmk hA7 hRt hla3 hla9
            go_wp2_with fail
            refine C1.out.mono ?_
            rintro e w2 ⟨⟨AM, cm, Lm, rfl, hLm, hlm, -, -, -⟩, hst, hkq⟩
            have hll : Lm.length = N1 := by rw [HN1.out, ← hLm, List.length_map]
            rw [hll] at hlm ⊢
            have HST2 := Lib.hid hst
            have HB2 := Lib.hid (HJ.out.bel.trans hkq.bel)
            have HS2 := Lib.hid (hcut7.out w2 (HSV.out.kept hkq.kept (fun a e => by have := HVF.out a e; omega)))
            have CR := rest_any w.heap.size ((frameN m).take R) 0 w2 HST2.out
            rw [HRT.out] at CR
            have CR := Lib.hid CR
            have C2 := feed_any w.heap.size ((frameN m).take R) 0 A7 (F - D) (cV - D) ((frameN m).drop R) HA7F.out hFDc (by rw [HRT.out]; have := HRB.out; omega) hFDk HMK.out HMD.out w2 HST2.out HS2.out
            unfold FeedPost at C2
            rw [run_rest m R (HTL.out m (by simp))] at C2
            dsimp only at C2
            rw [show ((0 : Nat) : Int) = 0 from rfl] at C2
            have C2 := Lib.hid C2
            clear hst hkq hLm hll C1
            go_wp2_with fail
            refine CR.out.mono ?_
            rintro e w3 ⟨rfl, hw3⟩
            subst hw3
            clear CR
            go_wp2_with fail
            refine C2.out.mono ?_
            rintro e w4 ⟨⟨AN, cn, Ln, rfl, hLn, hln, -, -, -⟩, hst, hkq⟩
            have hll : Ln.length = 1 := by rw [← List.length_map (f := Mq.m), hLn]; rfl
            rw [hll] at hln ⊢
            have HST4 := Lib.hid hst
            have HB4 := Lib.hid (HB2.out.trans hkq.bel)
            clear hst hkq hLn hll C2
            go_wp2_with fail
            refine (wawake_any w4).mono ?_
            rintro e w5 ⟨rfl, hb5⟩
            have HST5 := Lib.hid (HST4.out.bel hb5)
            have HB5 := Lib.hid (HB4.out.trans (hb5.mono HB4.out.size))
            clear hb5
            have CR := Lib.hid (rest_any w.heap.size [] 0 w5 HST5.out)
            go_wp2_with fail
            refine CR.out.mono ?_
            rintro e w6 ⟨rfl, hw6⟩
            subst hw6
            clear CR
            go_wp2_with fail
            go_ret
            exact ⟨rfl, HB5.out⟩
          · by_cases hc2 : 1 < cut
            · obtain ⟨k, rfl⟩ : ∃ k : Nat, cut = (k : Int) := ⟨cut.toNat, by omega⟩
              have hk1 : 1 ≤ k := by omega
              have hk2 : k ≤ la := by omega
              obtain ⟨D, hD⟩ : ∃ D, D = F - k := ⟨_, rfl⟩
              obtain ⟨R, hR⟩ : ∃ R, R = la - k := ⟨_, rfl⟩
              have hFD := HF2.out
              have d1 : (F : Int) - (k : Int) = (D : Int) := by omega
              have d2 : (la : Int) - (k : Int) = (R : Int) := by omega
              have hDF : D ≤ F := by omega
              have hDc : (D : Int) ≤ (cV : Int) := by omega
              have hDF' : (D : Int) ≤ (F : Int) := by omega
              have hlr := HL2.out
              have HRL := Lib.hid (show R < (frameN m).length by omega)
              have hbytes : (u8s (framesN (LP ++ [m]))).take D = u8s (framesN LP ++ (frameN m).take R) := by
                rw [HE.out, show D = (framesN LP).length + R by omega]
                unfold u8s
                rw [← List.map_take, List.take_length_add_append]
              have hrest : (u8s (framesN (LP ++ [m]))).drop D = u8s ((frameN m).drop R) := by
                rw [HE.out, show D = (framesN LP).length + R by omega]
                unfold u8s
                rw [← List.map_drop, List.drop_length_add_append]
              have HTL := Lib.hid HJ.out.tl
              have HLTm := Lib.hid (frames_lt _ HTL.out)
              have hs1 := HSV.out.take D
              rw [hbytes] at hs1
              have hmt : ∀ x ∈ framesN LP ++ (frameN m).take R, x < 256 := fun x hx => HLTm.out x (by
                rw [HE.out]
                rcases List.mem_append.1 hx with hx | hx
                · exact List.mem_append_left _ hx
                · exact List.mem_append_right _ (List.mem_of_mem_take hx))
              have hmd : ∀ x ∈ (frameN m).drop R, x < 256 := fun x hx => HLTm.out x (by rw [HE.out]; exact List.mem_append_right _ (List.mem_of_mem_drop hx))
              have hmk : ∀ x ∈ (frameN m).take R, x < 256 := fun x hx => HLTm.out x (by rw [HE.out]; exact List.mem_append_right _ (List.mem_of_mem_take hx))
              have HMD := Lib.hid hmd
              have HMK := Lib.hid hmk
              have C1 := feed_any w.heap.size [] 0 AV D cV (framesN LP ++ (frameN m).take R) (by rw [List.length_append, List.length_take]; omega) (by omega) (by simp) (by omega) (fun x hx => absurd hx List.not_mem_nil) hmt wr HJ.out.st hs1
              unfold FeedPost at C1
              rw [run_but LP m R (fun x hx => HTL.out x (List.mem_append_left _ hx)) (HTL.out m (by simp)) HRL.out] at C1
              dsimp only at C1
              rw [show ((0 : Nat) : Int) = 0 from rfl] at C1
              have C1 := Lib.hid C1
              obtain ⟨A7, hA7⟩ : ∃ A7, A7 = if cV = D then AV else AV.map (·.add D) := ⟨_, rfl⟩
              have hcut7 := Lib.hid (show ∀ w', Seg w' AV (u8s (framesN (LP ++ [m]))) → Seg w' A7 (u8s ((frameN m).drop R)) from fun w' hs => by
                rw [hA7, ← hrest]
                exact hs.cut D cV (by rw [u8s_length, HE.out, List.length_append]; omega))
              have HA7F := Lib.hid (show F - D = ((frameN m).drop R).length by rw [List.length_drop]; omega)
              have hsl : ∀ w : World, (Instr.sliceAt 26 (.slice AV F cV) (some (.int .i64 (D : Int))) none none).run Try.prog w = .ok (.slice A7 (F - D) (cV - D)) w := fun w => by
                have hu : Try.prog.underlying 26 = some (.slice (Try.prog.elem 26)) := by kernel_rfl
                have he : Try.prog.elem 26 = 5 := by kernel_rfl
                obtain ⟨i0, hi0, hz0, hz1, hz2⟩ := info_parts info5
                rw [run_sliceAt_slice (P := Try.prog) w 26 _ _ _ _ hu, run_slice_l (P := Try.prog) w 26 AV F cV hu .i64 (D : Int) (by omega) (by omega), he]
                have hsz5 : (sizeOf 5).run Try.prog w = .ok 1 w := by simp [sizeOf, typeInfo, hi0, hz1]
                rw [hsz5, hA7]
                simp [Result.andThen, sliced]
              have hRt : ((frameN m).take R).length = R := by rw [List.length_take]; omega
              have HRT := Lib.hid hRt
              have hRb : R ≤ 902 := by omega
              have HRB := Lib.hid (show R ≤ 902 by omega)
              have hFDk : F - D ≤ 20000 := by omega
              have hFDc : F - D ≤ cV - D := by omega
              clear hD hR hFD hlr hbytes hrest hs1 hmt hmd hmk hA7 hRt hla3 hla9
              go_wp2_with fail
              refine C1.out.mono ?_
              rintro e w2 ⟨⟨AM, cm, Lm, rfl, hLm, hlm, -, -, -⟩, hst, hkq⟩
              have hll : Lm.length = N1 := by rw [HN1.out, ← hLm, List.length_map]
              rw [hll] at hlm ⊢
              have HST2 := Lib.hid hst
              have HB2 := Lib.hid (HJ.out.bel.trans hkq.bel)
              have HS2 := Lib.hid (hcut7.out w2 (HSV.out.kept hkq.kept (fun a e => by have := HVF.out a e; omega)))
              have CR := rest_any w.heap.size ((frameN m).take R) 0 w2 HST2.out
              rw [HRT.out] at CR
              have CR := Lib.hid CR
              have C2 := feed_any w.heap.size ((frameN m).take R) 0 A7 (F - D) (cV - D) ((frameN m).drop R) HA7F.out hFDc (by rw [HRT.out]; have := HRB.out; omega) hFDk HMK.out HMD.out w2 HST2.out HS2.out
              unfold FeedPost at C2
              rw [run_rest m R (HTL.out m (by simp))] at C2
              dsimp only at C2
              rw [show ((0 : Nat) : Int) = 0 from rfl] at C2
              have C2 := Lib.hid C2
              clear hst hkq hLm hll C1
              go_wp2_with fail
              refine CR.out.mono ?_
              rintro e w3 ⟨rfl, hw3⟩
              subst hw3
              clear CR
              go_wp2_with fail
              refine C2.out.mono ?_
              rintro e w4 ⟨⟨AN, cn, Ln, rfl, hLn, hln, -, -, -⟩, hst, hkq⟩
              have hll : Ln.length = 1 := by rw [← List.length_map (f := Mq.m), hLn]; rfl
              rw [hll] at hln ⊢
              have HST4 := Lib.hid hst
              have HB4 := Lib.hid (HB2.out.trans hkq.bel)
              clear hst hkq hLn hll C2
              go_wp2_with fail
              refine (wawake_any w4).mono ?_
              rintro e w5 ⟨rfl, hb5⟩
              have HST5 := Lib.hid (HST4.out.bel hb5)
              have HB5 := Lib.hid (HB4.out.trans (hb5.mono HB4.out.size))
              clear hb5
              have CR := Lib.hid (rest_any w.heap.size [] 0 w5 HST5.out)
              go_wp2_with fail
              refine CR.out.mono ?_
              rintro e w6 ⟨rfl, hw6⟩
              subst hw6
              clear CR
              go_wp2_with fail
              go_ret
              exact ⟨rfl, HB5.out⟩
            · have hk1 : 1 ≤ 1 := by omega
              have hk2 : 1 ≤ la := by omega
              obtain ⟨D, hD⟩ : ∃ D, D = F - 1 := ⟨_, rfl⟩
              obtain ⟨R, hR⟩ : ∃ R, R = la - 1 := ⟨_, rfl⟩
              have hFD := HF2.out
              have d1 : (F : Int) - 1 = (D : Int) := by omega
              have d2 : (la : Int) - 1 = (R : Int) := by omega
              have hDF : D ≤ F := by omega
              have hDc : (D : Int) ≤ (cV : Int) := by omega
              have hDF' : (D : Int) ≤ (F : Int) := by omega
              have hlr := HL2.out
              have HRL := Lib.hid (show R < (frameN m).length by omega)
              have hbytes : (u8s (framesN (LP ++ [m]))).take D = u8s (framesN LP ++ (frameN m).take R) := by
                rw [HE.out, show D = (framesN LP).length + R by omega]
                unfold u8s
                rw [← List.map_take, List.take_length_add_append]
              have hrest : (u8s (framesN (LP ++ [m]))).drop D = u8s ((frameN m).drop R) := by
                rw [HE.out, show D = (framesN LP).length + R by omega]
                unfold u8s
                rw [← List.map_drop, List.drop_length_add_append]
              have HTL := Lib.hid HJ.out.tl
              have HLTm := Lib.hid (frames_lt _ HTL.out)
              have hs1 := HSV.out.take D
              rw [hbytes] at hs1
              have hmt : ∀ x ∈ framesN LP ++ (frameN m).take R, x < 256 := fun x hx => HLTm.out x (by
                rw [HE.out]
                rcases List.mem_append.1 hx with hx | hx
                · exact List.mem_append_left _ hx
                · exact List.mem_append_right _ (List.mem_of_mem_take hx))
              have hmd : ∀ x ∈ (frameN m).drop R, x < 256 := fun x hx => HLTm.out x (by rw [HE.out]; exact List.mem_append_right _ (List.mem_of_mem_drop hx))
              have hmk : ∀ x ∈ (frameN m).take R, x < 256 := fun x hx => HLTm.out x (by rw [HE.out]; exact List.mem_append_right _ (List.mem_of_mem_take hx))
              have HMD := Lib.hid hmd
              have HMK := Lib.hid hmk
              have C1 := feed_any w.heap.size [] 0 AV D cV (framesN LP ++ (frameN m).take R) (by rw [List.length_append, List.length_take]; omega) (by omega) (by simp) (by omega) (fun x hx => absurd hx List.not_mem_nil) hmt wr HJ.out.st hs1
              unfold FeedPost at C1
              rw [run_but LP m R (fun x hx => HTL.out x (List.mem_append_left _ hx)) (HTL.out m (by simp)) HRL.out] at C1
              dsimp only at C1
              rw [show ((0 : Nat) : Int) = 0 from rfl] at C1
              have C1 := Lib.hid C1
              obtain ⟨A7, hA7⟩ : ∃ A7, A7 = if cV = D then AV else AV.map (·.add D) := ⟨_, rfl⟩
              have hcut7 := Lib.hid (show ∀ w', Seg w' AV (u8s (framesN (LP ++ [m]))) → Seg w' A7 (u8s ((frameN m).drop R)) from fun w' hs => by
                rw [hA7, ← hrest]
                exact hs.cut D cV (by rw [u8s_length, HE.out, List.length_append]; omega))
              have HA7F := Lib.hid (show F - D = ((frameN m).drop R).length by rw [List.length_drop]; omega)
              have hsl : ∀ w : World, (Instr.sliceAt 26 (.slice AV F cV) (some (.int .i64 (D : Int))) none none).run Try.prog w = .ok (.slice A7 (F - D) (cV - D)) w := fun w => by
                have hu : Try.prog.underlying 26 = some (.slice (Try.prog.elem 26)) := by kernel_rfl
                have he : Try.prog.elem 26 = 5 := by kernel_rfl
                obtain ⟨i0, hi0, hz0, hz1, hz2⟩ := info_parts info5
                rw [run_sliceAt_slice (P := Try.prog) w 26 _ _ _ _ hu, run_slice_l (P := Try.prog) w 26 AV F cV hu .i64 (D : Int) (by omega) (by omega), he]
                have hsz5 : (sizeOf 5).run Try.prog w = .ok 1 w := by simp [sizeOf, typeInfo, hi0, hz1]
                rw [hsz5, hA7]
                simp [Result.andThen, sliced]
              have hRt : ((frameN m).take R).length = R := by rw [List.length_take]; omega
              have HRT := Lib.hid hRt
              have hRb : R ≤ 902 := by omega
              have HRB := Lib.hid (show R ≤ 902 by omega)
              have hFDk : F - D ≤ 20000 := by omega
              have hFDc : F - D ≤ cV - D := by omega
              clear hD hR hFD hlr hbytes hrest hs1 hmt hmd hmk hA7 hRt hla3 hla9
              go_wp2_with fail
              refine C1.out.mono ?_
              rintro e w2 ⟨⟨AM, cm, Lm, rfl, hLm, hlm, -, -, -⟩, hst, hkq⟩
              have hll : Lm.length = N1 := by rw [HN1.out, ← hLm, List.length_map]
              rw [hll] at hlm ⊢
              have HST2 := Lib.hid hst
              have HB2 := Lib.hid (HJ.out.bel.trans hkq.bel)
              have HS2 := Lib.hid (hcut7.out w2 (HSV.out.kept hkq.kept (fun a e => by have := HVF.out a e; omega)))
              have CR := rest_any w.heap.size ((frameN m).take R) 0 w2 HST2.out
              rw [HRT.out] at CR
              have CR := Lib.hid CR
              have C2 := feed_any w.heap.size ((frameN m).take R) 0 A7 (F - D) (cV - D) ((frameN m).drop R) HA7F.out hFDc (by rw [HRT.out]; have := HRB.out; omega) hFDk HMK.out HMD.out w2 HST2.out HS2.out
              unfold FeedPost at C2
              rw [run_rest m R (HTL.out m (by simp))] at C2
              dsimp only at C2
              rw [show ((0 : Nat) : Int) = 0 from rfl] at C2
              have C2 := Lib.hid C2
              clear hst hkq hLm hll C1
              go_wp2_with fail
              refine CR.out.mono ?_
              rintro e w3 ⟨rfl, hw3⟩
              subst hw3
              clear CR
              go_wp2_with fail
              refine C2.out.mono ?_
              rintro e w4 ⟨⟨AN, cn, Ln, rfl, hLn, hln, -, -, -⟩, hst, hkq⟩
              have hll : Ln.length = 1 := by rw [← List.length_map (f := Mq.m), hLn]; rfl
              rw [hll] at hln ⊢
              have HST4 := Lib.hid hst
              have HB4 := Lib.hid (HB2.out.trans hkq.bel)
              clear hst hkq hLn hll C2
              go_wp2_with fail
              refine (wawake_any w4).mono ?_
              rintro e w5 ⟨rfl, hb5⟩
              have HST5 := Lib.hid (HST4.out.bel hb5)
              have HB5 := Lib.hid (HB4.out.trans (hb5.mono HB4.out.size))
              clear hb5
              have CR := Lib.hid (rest_any w.heap.size [] 0 w5 HST5.out)
              go_wp2_with fail
              refine CR.out.mono ?_
              rintro e w6 ⟨rfl, hw6⟩
              subst hw6
              clear CR
              go_wp2_with fail
              go_ret
              exact ⟨rfl, HB5.out⟩
end Go.Proofs.Ytgifbjomaenlnaa
