/- WsBack. Conditions: the cuts lie in memory; the tables of UTF-8 are laid. -/
import Derived.Test.YtnbhgjionpidnaaDoorSBackM
import Derived.Test.YtnbhgjionpidnaaDoorSFr
import Derived.Great.BuildSlice
import Derived.Test.YtnbhgjionpidnaaDoorStableF
import Derived.Test.YtnbhgjionpidnaaDoorSRune
namespace Go.Proofs.YtnbhgjionpidnaaDoor
open Go.RowKit

/-- The reader, the mask, the items so far. -/
structure BkI (w : World) (gm gr z : Nat) (mk : Bool) (M : Nat → Nat) (k : Nat) (acc : ByteArray) (v : Value) (L : List ItM) (w1 : World) : Prop where
  bel : Below w.heap.size w w1
  box : Bk w1 gm 22 (msA M)
  rd : ∃ B, RdS B gr mk (some (k, acc, [])) w1
  own : w1.ownsRow z 46 3 v L.length (itsL L)
  le : w.heap.size ≤ gm ∧ gm < gr ∧ gr < z ∧ z ≤ w1.heap.size
section
variable {w w1 w2 : World} {gm gr z k k2 : Nat} {mk : Bool} {M : Nat → Nat} {acc acc2 : ByteArray} {v : Value} {L : List ItM}
theorem BkI.next (h : BkI w gm gr z mk M k acc v L w1) (hb : Below w1.heap.size w1 w2) : BkI w gm gr z mk M k acc v L w2 := by
  obtain ⟨B, hr⟩ := h.rd
  exact ⟨h.bel.trans (hb.mono h.bel.size), h.box.bel hb, ⟨B, RdL.bel hr hb⟩, own_belS h.own hb, h.le.1, h.le.2.1, h.le.2.2.1, Nat.le_trans h.le.2.2.2 hb.size⟩
theorem BkI.feed (h : BkI w gm gr z mk M k acc v L w1) (hk : KQ gr w1 w2) (hr : ∃ B, RdS B gr mk (some (k2, acc2, [])) w2) : BkI w gm gr z mk M k2 acc2 v L w2 := by
  obtain ⟨h1, h2, h3, h4⟩ := h.le
  exact ⟨h.bel.trans (hk.bel.mono (by omega)), bk_kept h.box (by omega) hk.kept, hr, own_keptS h.own (fun e => by have := (h.own.lt gr e).1; omega) hk.kept, h1, h2, h3, Nat.le_trans h4 hk.kept.size⟩
theorem BkI.push1 {gcap g m : Nat} (h : BkI w gm gr z mk M k acc v L w1) (i : ItM) (hown : w2.ownsRow z 46 3 (.slice (some ⟨g, 0, none⟩) m gcap) m (itsL L ++ [.int .i64 (i.kind : Nat), .string i.text, .int .i64 (i.code : Nat)])) (hgr : w1.grownBy w2 v.ownBlock) : BkI w gm gr z mk M k acc (.slice (some ⟨g, 0, none⟩) m gcap) (L ++ [i]) w2 := by
  obtain ⟨h1, h2, h3, h4⟩ := h.le
  obtain ⟨b, hb1, hb2, _⟩ := grown_kept1 hgr (fun b hb => (h.own.lt b hb).1) h4
  obtain ⟨B, A, c, r1, r2, r3, r4⟩ := h.rd
  have hm : m = (L ++ [i]).length := by
    have := hown.1
    rw [← itsL_one, itsL_length] at this
    omega
  refine ⟨h.bel.grown hgr (by omega) (fun b hb => by have := (h.own.lt b hb).1; omega), bk_kept h.box (by omega) hb2, ⟨B, A, c, bk_kept r1 (by omega) hb2, r2, Seg.nil _ _, r4⟩, ?_, h1, h2, h3, Nat.le_trans h4 hgr.size⟩
  rw [← hm, itsL_one]
  exact hown
theorem BkI.tab (h : BkI w gm gr z mk M k acc v L w1) (hT : Tabs w) : TabG w1 gr := ⟨w, hT, h.bel, by have := h.le; omega⟩
end
/-- Elements out of a row in memory. -/
theorem seg_news {w : World} {b off : Nat} {xs : List Value} (h : Seg w (some ⟨b, off, none⟩) xs) : ∀ j u, xs[j]? = some u → w.cell? ((⟨b, off, none⟩ : Addr).add j) = some u := by
  intro j u hu
  have hj : j < xs.length := by
    rcases Nat.lt_or_ge j xs.length with h | h
    · exact h
    · rw [List.getElem?_eq_none h] at hu; cases hu
  obtain ⟨b', off', e, _, hc⟩ := h (by intro e; subst e; simp at hj)
  injection e with e
  injection e with e1 e2
  subst e1
  subst e2
  rw [show ((⟨b, off, none⟩ : Addr).add j) = ⟨b, off + j, none⟩ by unfold Addr.add; split <;> simp_all, hc j hj]
  exact hu
theorem st_part (k : Nat) (acc : ByteArray) (ha : acc.size ≤ 4096) (hk : k ≤ 2) : StB 10000 (some (k, acc, [])) := fun k' t' l' e => by
  simp only [Option.some.injEq, Prod.mk.injEq] at e
  obtain ⟨rfl, rfl, rfl⟩ := e
  exact ⟨hk, ha, Nat.zero_le _, fun x hx => by cases hx⟩
theorem ext_size (s : ByteArray) (n : Nat) (hn : n ≤ s.size) : (s.extract 0 n).size = n := by
  rw [ByteArray.size_extract]; omega
theorem ext_join (s : ByteArray) (n : Nat) (hn : n ≤ s.size) : s.extract 0 n ++ s.extract n s.size = s := by
  rw [ByteArray.extract_append_extract, Nat.zero_min, Nat.max_eq_right hn, ByteArray.extract_zero_size]
def bkF (z : Nat) (mk : Bool) (M : Nat → Nat) (op m : Nat) (rest : ByteArray) (E : List Nat) (j : Nat) (v _u : Value) (w : World) : Prop := match j with
  | 0 => v = .int .i64 (op : Nat)
  | 1 => v = .bool mk
  | 2 => v = .agg (msA M)
  | 3 => v = .string rest
  | 4 => v = .int .i64 (m : Nat)
  | 5 => v = .string (rest.extract 0 m)
  | 6 => v = frV ⟨false, op, mk, rest.extract 0 m⟩ M
  | 7 => ∃ x, v = .tuple #[x, .int .i64 0] ∧ RowS z w x E.length (u8s E)
  | 8 => ∃ x, v = .tuple #[x, .int .i64 0] ∧ RowS z w x E.length (u8s E)
  | 9 => RowS z w v E.length (u8s E)
  | 10 => v = .int .i64 0
  | 11 => RowS z w v E.length (u8s E)
  | 12 => v = .int .i64 0
  | _ => True
theorem bkF_bel {z : Nat} {mk : Bool} {M : Nat → Nat} {op m : Nat} {rest : ByteArray} {E : List Nat} {w w' : World} (hb : Below w.heap.size w w') : ∀ j u u', bkF z mk M op m rest E j u u' w → bkF z mk M op m rest E j u u' w' := by
  intro j u u' h
  unfold bkF at *
  split at h <;> first | exact h | exact h.bel hb | (obtain ⟨x, h1, h2⟩ := h; exact ⟨x, h1, h2.bel hb⟩)
theorem tmod50 (Z : Int) : -50 < Z.tmod 50 ∧ Z.tmod 50 < 50 := by
  rcases Int.le_total 0 Z with h | h
  · rw [Int.tmod_eq_emod_of_nonneg h]; omega
  · have e : Z.tmod 50 = -((-Z).tmod 50) := by rw [Int.neg_tmod]; simp
    rw [e, Int.tmod_eq_emod_of_nonneg (by omega)]; omega
theorem wp_itemsTo {P : Program} {o : Oper} {a : Act} {w : World} {K : Act → World → Prop} {Q : Exit → Act → World → Prop} (t e : TypeId) (parts : Array (Nat × Operand)) (ho : o.op = .buildSlice t 2 parts) (cells : Array Value) (ie : TypeInfo) (z : Value)
    (hu : P.underlying t = some (.slice e)) (hie : P.info? e = some ie) (hz : ie.zero = some z) (hs : ie.size = 3) (L : List (Nat × Value)) (hp : (parts.map fun (i, x) => (i, a.eval x)).toList = L)
    (hf : Instr.fill (fun i => some (i * 3, 3)) ((Array.range (2 * 3)).map fun x => z.cells[x % z.cells.size]!) L = some cells)
    (h : K (a.put o.dst (.slice (some ⟨w.heap.size, 0, none⟩) 2 2)) (w.alloc (.cells cells e))) : o.wp P a w K Q := by
  refine wp_buildSlice t e 2 parts ho cells ie z hu hie hz (by rw [hs]; decide) (by rw [hs]; decide) ?_ h
  rw [hs, hp]
  exact hf
theorem fill_items (P T : ByteArray) (K : Nat) : Instr.fill (fun i => some (i * 3, 3)) ((Array.range (2 * 3)).map fun x => (Value.agg #[.int .i64 0, .string ⟨#[]⟩, .int .i64 0]).cells[x % (Value.agg #[.int .i64 0, .string ⟨#[]⟩, .int .i64 0]).cells.size]!) [(0, .agg #[.int .i64 9, .string P, .int .i64 0]), (1, .agg #[.int .i64 (K : Int), .string T, .int .i64 0])] = some #[.int .i64 9, .string P, .int .i64 0, .int .i64 (K : Int), .string T, .int .i64 0] := by kernel_rfl
theorem wp_buildTo {P : Program} {o : Oper} {a : Act} {w : World} {K : Act → World → Prop} {Q : Exit → Act → World → Prop} (t : TypeId) (parts : Array (Nat × Operand)) (ho : o.op = .build t parts) (cells : Array Value)
    (hf : P.built t (parts.map fun (i, x) => (i, a.eval x)).toList = some cells) (h : K (a.put o.dst (.agg cells)) w) : o.wp P a w K Q := by
  refine wp_build t parts ho (by rw [hf]; rfl) ?_
  rw [hf]
  exact h
set_option maxRecDepth 100000 in
set_option maxHeartbeats 4000000 in
theorem back_any (text ping : ByteArray) (mk : Bool) (M : Nat → Nat) (hM : ∀ i, i < 4 → M i < 256) (A : Option Addr) (n c : Nat) (zs : List Int) (hn : n = zs.length) (hz1 : text.size ≤ 9223372036854775807) (hz2 : ping.size ≤ 9223372036854775807) (hb : ∀ x ∈ zs, -9223372036854775808 ≤ x ∧ x ≤ 9223372036854775807) (_hcn : n ≤ 9223372036854775807) (w : World) (hT : Tabs w) (hA : Seg w A (zs.map (Value.int .i64))) :
    Calls Tryd.prog 6 #[.string text, .bool mk, .agg (msA M), .slice A n c, .string ping] w fun e w' => e = .returned (.bool true) ∧ Below w.heap.size w w' := by
  obtain ⟨j0, hj0, hy0, hy1, hy2⟩ := info_parts info_ritem
  obtain ⟨w1, hw1⟩ : ∃ x, x = w.alloc (.cells (msA M) 22) := ⟨_, rfl⟩
  have b1 : Below w.heap.size w w1 := by rw [hw1]; exact (Below.refl _ _).alloc (Nat.le_refl _) _
  obtain ⟨gm, hgm⟩ : ∃ x, x = w.heap.size := ⟨_, rfl⟩
  have HBX := Lib.hid (show Bk w1 gm 22 (msA M) by rw [hw1, hgm]; exact Bk.new w _ _)
  have HB1 := Lib.hid b1
  have HW1 := Lib.hid hw1
  have HGM := Lib.hid hgm
  have HM := Lib.hid hM
  have HN := Lib.hid hn
  have HZ := Lib.hid hb
  have HT := Lib.hid hT
  have HA := Lib.hid hA
  clear hw1 b1 hgm hM hn hb hT hA
  unfold msA at HW1 ⊢
  go_enter Tryd.func6, Tryd.ntmps6
  go_upto_region 1 with fail
  rw [← HW1.out, ← HGM.out]
  go_upto_if 24 with fail
  go_cut [0] (fun s wx => ∃ T : ByteArray, T.size ≤ 2000 ∧ s = .string T ∧ wx = w1)
  case first =>
    by_cases h1 : 2000 < text.size
    · have i1 : (2000 : Int) < (text.size : Int) := by omega
      have i2 : decide ((2000 : Int) < (text.size : Int)) = true := by simp; omega
      go_wp2_with fail
      go_meet
      exact ⟨text.extract 0 2000, by rw [ByteArray.size_extract]; omega, rfl, rfl⟩
    · have i1 : ¬ (2000 : Int) < (text.size : Int) := by omega
      have i2 : decide ((2000 : Int) < (text.size : Int)) = false := by simp; omega
      go_wp2_with fail
      go_meet
      exact ⟨text, by omega, rfl, rfl⟩
  case rest =>
    obtain ⟨T, hT2, rfl, rfl⟩ := hcut
    go_upto_if 29 with fail
    go_cut [4] (fun s wx => ∃ P : ByteArray, P.size ≤ 125 ∧ s = .string P ∧ wx = wc)
    case first =>
      by_cases h1 : 125 < ping.size
      · have i1 : (125 : Int) < (ping.size : Int) := by omega
        have i2 : decide ((125 : Int) < (ping.size : Int)) = true := by simp; omega
        go_wp2_with fail
        go_meet
        exact ⟨ping.extract 0 125, by rw [ByteArray.size_extract]; omega, rfl, rfl⟩
      · have i1 : ¬ (125 : Int) < (ping.size : Int) := by omega
        have i2 : decide ((125 : Int) < (ping.size : Int)) = false := by simp; omega
        go_wp2_with fail
        go_meet
        exact ⟨ping, by omega, rfl, rfl⟩
    case rest =>
      obtain ⟨P, hP1, rfl, rfl⟩ := hcut
      go_wp2_with fail
      refine (newReader_any mk wc).mono ?_
      rintro e w2 ⟨rfl, r2, b2⟩
      obtain ⟨gr, hgr⟩ : ∃ x, x = wc.heap.size := ⟨_, rfl⟩
      rw [← hgr] at r2
      rw [← hgr]
      have HR2 := Lib.hid r2
      have HB2 := Lib.hid (show Below w.heap.size w w2 from HB1.out.trans (b2.mono HB1.out.size))
      have HX2 := Lib.hid (HBX.out.bel b2)
      have HLE := Lib.hid (show w.heap.size ≤ gm ∧ gm < gr ∧ gr < w2.heap.size from ⟨by have := HGM.out; omega, by have := HBX.out.lt; omega, r2.lt⟩)
      clear r2 b2 hgr HBX HB1 HW1
      have CU := Lib.hid (utf8_any T (by omega) w2)
      obtain ⟨V, hV⟩ : ∃ V, V = Lib.validD T.data.toList := ⟨_, rfl⟩
      rw [← hV] at CU
      have HV := Lib.hid hV
      clear hV
      go_upto_if 38 with (go_at_call 23; refine CU.out.mono ?_; rintro e w3 ⟨rfl, hw3⟩; subst hw3; clear CU)
      go_cut [12] (fun s wx => ∃ K : Nat, (K = 1 ∧ V = true ∨ K = 2) ∧ s = .int .i64 (K : Int) ∧ wx = w3)
      case first =>
        cases V
        · go_wp2_with fail
          go_meet
          refine ⟨2, ?_, ?_, ?_⟩ <;> first | rfl | trivial | simp
        · go_wp2_with fail
          go_meet
          refine ⟨1, ?_, ?_, ?_⟩ <;> first | rfl | trivial | simp
      case rest =>
        obtain ⟨K, hK, rfl, hwc⟩ := hcut
        subst hwc
        obtain ⟨w4, hw4⟩ : ∃ x, x = wc.alloc (.cells #[] 46) := ⟨_, rfl⟩
        obtain ⟨z, hz⟩ : ∃ x, x = wc.heap.size := ⟨_, rfl⟩
        have al : Below wc.heap.size wc w4 := by rw [hw4]; exact (Below.refl _ _).alloc (Nat.le_refl _) _
        have HI0 := Lib.hid (show BkI w gm gr z mk M 0 ⟨#[]⟩ (.slice (some ⟨z, 0, none⟩) 0 0) [] w4 from ⟨HB2.out.trans (al.mono HB2.out.size), HX2.out.bel al, ⟨0, none, 0, HR2.out.bel al, Nat.le_refl _, Seg.nil _ _, fun a e => by cases e⟩, by
          rw [hw4, hz]
          exact World.ownsRow_lit (size := 3) wc #[] 0 (Nat.le_refl _) (by decide) rfl, by have := HLE.out; omega, by have := HLE.out; omega, by have := HLE.out; omega, by rw [hz]; exact al.size⟩)
        have HK := Lib.hid hK
        have HK12 : K ≤ 2 := by omega
        have HW4 := Lib.hid hw4
        have HZZ := Lib.hid hz
        have HJ0 := Lib.hid (show (⟨#[]⟩ : ByteArray) ++ T = T by rw [show (⟨#[]⟩ : ByteArray) = ByteArray.empty from rfl, ByteArray.empty_append])
        clear hK hw4 hz al HB2 HX2 HR2 HLE
        go_upto_region 12 with fail
        rw [← HW4.out, ← HZZ.out]
        go_wp2_with fail
        go_loopw [13, 14, 15, 16, 17, 18, 19] (fun s13 s14 s15 s16 _ _ _ wx => ∃ (i op k : Nat) (rest acc : ByteArray), i ≤ 20 ∧ s16 = .int .i64 i ∧ s14 = .string rest ∧ s15 = .int .i64 op ∧ Hid (BkI w gm gr z mk M k acc s13 [] wx) ∧ Hid (acc ++ rest = T) ∧ Hid ((op = 0 ∧ k = K) ∨ (op = K ∧ k = 0))) (fun _ _ _ s16 _ _ _ _ => 20 - (intOf s16).toNat)
        case atStart => exact ⟨0, K, 0, T, ⟨#[]⟩, Nat.zero_le _, rfl, rfl, rfl, HI0, HJ0, Lib.hid (Or.inr ⟨rfl, rfl⟩)⟩
        case round =>
          clear HI0 HJ0 HW4 HZZ
          obtain ⟨i, op, k, rest, acc, hi, rfl, rfl, rfl, HI, HJ, HO⟩ := hrel
          have hrs2 : rest.size ≤ 2000 := by
            have := congrArg ByteArray.size HJ.out
            rw [ByteArray.size_append] at this
            omega
          by_cases hlt : i < n ∧ i < 20
          · obtain ⟨h1, h2⟩ := hlt
            have i1 : (i : Int) < (n : Int) := by omega
            have i2 : (i : Int) < 20 := by omega
            have i3 : decide ((i : Int) < (n : Int)) = true := by simp; omega
            have i0 : (0 : Int) ≤ (i : Int) := by omega
            have hzl : i < zs.length := by have := HN.out; omega
            obtain ⟨Z, hZ⟩ : ∃ x, x = zs[i] := ⟨_, rfl⟩
            have hZb := HZ.out zs[i] (List.getElem_mem hzl)
            rw [← hZ] at hZb
            obtain ⟨ba, oa, hAe, _, _, hcell⟩ := (HA.out.bel HI.out.bel).pick (k := i) (by simpa using hzl)
            subst hAe
            rw [List.getElem_map, ← hZ] at hcell
            clear hZ
            have HRS := Lib.hid hrs2
            clear hrs2
            go_upto_region 17 with fail
            go_cut [17] (fun s wx => ∃ r : Int, -50 < r ∧ r < 50 ∧ s = .int .i64 r ∧ wx = wr)
            case first =>
              go_wp2_with fail
              go_meet
              exact ⟨_, (tmod50 _).1, (tmod50 _).2, rfl, by first | rfl | trivial⟩
            case rest =>
              obtain ⟨r, hr1, hr2, rfl, hwc⟩ := hcut
              subst hwc
              clear hcell hZb
              go_upto_if 58 with fail
              go_cut [17] (fun s wx => ∃ q : Nat, q < 50 ∧ s = .int .i64 (q : Int) ∧ wx = wc)
              case first =>
                by_cases hneg : r < 0
                · have i5 : decide (r < 0) = true := by simp; omega
                  obtain ⟨q, rfl⟩ : ∃ q : Nat, r = -(q : Int) := ⟨(-r).toNat, by omega⟩
                  have e5 : -(-(q : Int)) = (q : Int) := by omega
                  go_wp2_with fail
                  go_meet
                  refine ⟨q, by omega, ?_, ?_⟩ <;> first | rfl | trivial | (congr 1; omega)
                · have i5 : decide (r < 0) = false := by simp; omega
                  obtain ⟨q, rfl⟩ : ∃ q : Nat, r = (q : Int) := ⟨r.toNat, by omega⟩
                  go_wp2_with fail
                  go_meet
                  refine ⟨q, by omega, ?_, ?_⟩ <;> first | rfl | trivial
              case rest =>
                obtain ⟨q, hq, rfl, hwc⟩ := hcut
                subst hwc
                clear hr1 hr2
                go_upto_region 20 with fail
                go_cut [17] (fun s wx => ∃ m : Nat, m ≤ rest.size ∧ s = .int .i64 (m : Int) ∧ wx = wc)
                case first =>
                  by_cases hle : q ≤ rest.size
                  · have i5 : ¬ (rest.size : Int) < (q : Int) := by omega
                    have i6 : (q : Int) ≤ (rest.size : Int) := by omega
                    go_wp2_with fail
                    all_goals (go_meet; refine ⟨q, hle, ?_, ?_⟩ <;> first | rfl | trivial | (congr 1; omega))
                  · have i5 : (rest.size : Int) < (q : Int) := by omega
                    have i6 : ¬ (q : Int) ≤ (rest.size : Int) := by omega
                    go_wp2_with fail
                    all_goals (go_meet; refine ⟨rest.size, Nat.le_refl _, ?_, ?_⟩ <;> first | rfl | trivial | (congr 1; omega))
                case rest =>
                  obtain ⟨m, hm, rfl, hwc⟩ := hcut
                  subst hwc
                  clear hq
                  go_upto_region 21 with fail
                  obtain ⟨E, hE⟩ : ∃ E, E = encN ⟨false, op, mk, rest.extract 0 m⟩ M := ⟨_, rfl⟩
                  have hq := ext_size rest m hm
                  have HEL := Lib.hid (show ∀ x ∈ E, x < 256 by rw [hE]; exact encN_lt false op mk _ M (by have := HO.out; omega) (by rw [hq]; have := HRS.out; omega) HM.out)
                  have HEN := Lib.hid (show E.length ≤ 5000 by rw [hE, encN_length, hq]; have := HRS.out; split <;> split <;> omega)
                  have HE := Lib.hid hE
                  have HQ := Lib.hid hq
                  have HMM := Lib.hid hm
                  have i7 : (m : Int) ≤ (rest.size : Int) := by omega
                  have GD := Lib.hid (show BkI w gm gr z mk M k acc u13 [] wc.drew from HI.out.next (Below.refl _ _).drew)
                  clear hE hq
                  refine wp_region_list [some 66, some 67, some 68, some 69, some 70, some 71, some 72, some 73, some 65, some 74, some 75, some 18, some 19] (fun _ => 0) (bkF z mk M op m rest E) (BkI w gm gr z mk M k acc u13 []) (by kernel_rfl) GD.out rfl (by kernel_rfl) (by kernel_rfl) (by kernel_rfl) (by kernel_rfl) (fun T2 hT2 => ?_)
                  simp only [List.filterMap_cons, List.filterMap_nil, id, putsS, Act.put, List.setIfInBounds_toArray, List.set_cons_zero, List.set_cons_succ] at hT2
                  subst hT2
                  refine ⟨⟨?_, ?_, ?_, ?_, ?_, ?_, ?_, ?_, ?_, ?_, ?_, ?_, ?_, trivial⟩, ?_⟩
                  · -- 0: Op.move t15
                    refine StepL.act ?_
                    intro f w1 hG hF K hK
                    clear hF
                    dsimp only at hK ⊢
                    go_simp
                    exact hK.out _ _ hG rfl (fun _ _ _ _ h => h)
                  · -- 1: Op.move t1
                    refine StepL.act ?_
                    intro f w1 hG hF K hK
                    clear hF
                    dsimp only at hK ⊢
                    go_simp
                    exact hK.out _ _ hG rfl (fun _ _ _ _ h => h)
                  · -- 2: Op.load 22 t7
                    refine StepL.act ?_
                    intro f w1 hG hF K hK
                    clear hF
                    dsimp only at hK ⊢
                    have y0 : w1.cell? ⟨gm, 0, none⟩ = some (.int .u8 (M 0 : Nat)) := hG.box.cell 0
                    have y1 : w1.cell? ⟨gm, 1, none⟩ = some (.int .u8 (M 1 : Nat)) := hG.box.cell 1
                    have y2 : w1.cell? ⟨gm, 2, none⟩ = some (.int .u8 (M 2 : Nat)) := hG.box.cell 2
                    have y3 : w1.cell? ⟨gm, 3, none⟩ = some (.int .u8 (M 3 : Nat)) := hG.box.cell 3
                    go_simp
                    exact hK.out _ _ hG rfl (fun _ _ _ _ h => h)
                  · -- 3: Op.move t14
                    refine StepL.act ?_
                    intro f w1 hG hF K hK
                    clear hF
                    dsimp only at hK ⊢
                    go_simp
                    exact hK.out _ _ hG rfl (fun _ _ _ _ h => h)
                  · -- 4: Op.move t17
                    refine StepL.act ?_
                    intro f w1 hG hF K hK
                    clear hF
                    dsimp only at hK ⊢
                    go_simp
                    exact hK.out _ _ hG rfl (fun _ _ _ _ h => h)
                  · -- 5: Op.slice 9 t69 none (some t70) none
                    refine StepL.act ?_
                    intro f w1 hG hF K hK
                    have d3 : (bkF z mk M op m rest E) 3 (f 69) (f 0) w1 := hF 3 (by kernel_rfl)
                    have d4 : (bkF z mk M op m rest E) 4 (f 70) (f 0) w1 := hF 4 (by kernel_rfl)
                    clear hF
                    dsimp only at hK ⊢
                    generalize f 69 = v69 at *
                    generalize f 70 = v70 at *
                    subst d3
                    subst d4
                    go_simp
                    exact hK.out _ _ hG rfl (fun _ _ _ _ h => h)
                  · -- 6: Op.build 24 #[(1, t66), (2, t67), (3, t68), (4, t71)]
                    refine StepL.act ?_
                    intro f w1 hG hF K hK
                    have d0 : (bkF z mk M op m rest E) 0 (f 66) (f 0) w1 := hF 0 (by kernel_rfl)
                    have d1 : (bkF z mk M op m rest E) 1 (f 67) (f 0) w1 := hF 1 (by kernel_rfl)
                    have d2 : (bkF z mk M op m rest E) 2 (f 68) (f 0) w1 := hF 2 (by kernel_rfl)
                    have d5 : (bkF z mk M op m rest E) 5 (f 71) (f 0) w1 := hF 5 (by kernel_rfl)
                    clear hF
                    dsimp only at hK ⊢
                    generalize f 66 = v66 at *
                    generalize f 67 = v67 at *
                    generalize f 68 = v68 at *
                    generalize f 71 = v71 at *
                    subst d0
                    subst d1
                    subst d2
                    subst d5
                    go_simp
                    exact hK.out _ _ hG rfl (fun _ _ _ _ h => h)
                  · -- 7: Op.call ( value (Operand.func 9), args := #[t72], argTypes := #[24] )
                    refine StepL.act ?_
                    intro f w1 hG hF K hK
                    have d6 : (bkF z mk M op m rest E) 6 (f 72) (f 0) w1 := hF 6 (by kernel_rfl)
                    clear hF
                    dsimp only at hK ⊢
                    generalize f 72 = v72 at *
                    subst d6
                    go_simp
                    refine (enc_any false mk op M (rest.extract 0 m) (by have := HO.out; omega) (by rw [HQ.out]; have := HRS.out; omega) HM.out w1).mono ?_
                    rintro e w21 ⟨x, rfl, ho, hb⟩
                    rw [← HE.out] at ho
                    exact hK.out _ _ (hG.next hb) ⟨x, rfl, RowS.of_own ho hG.le.2.2.2⟩ (fun j _ _ _ h => bkF_bel hb j _ _ h)
                  · -- 8: Op.move t73
                    refine StepL.act ?_
                    intro f w1 hG hF K hK
                    have d7 : (bkF z mk M op m rest E) 7 (f 73) (f 0) w1 := hF 7 (by kernel_rfl)
                    clear hF
                    dsimp only at hK ⊢
                    generalize f 73 = v73 at *
                    obtain ⟨x, rfl, hx⟩ := d7
                    go_simp
                    exact hK.out _ _ hG ⟨x, rfl, hx⟩ (fun _ _ _ _ h => h)
                  · -- 9: Op.extract t65 0
                    refine StepL.act ?_
                    intro f w1 hG hF K hK
                    have d8 : (bkF z mk M op m rest E) 8 (f 65) (f 0) w1 := hF 8 (by kernel_rfl)
                    clear hF
                    dsimp only at hK ⊢
                    generalize f 65 = v65 at *
                    obtain ⟨x, rfl, hx⟩ := d8
                    go_simp
                    exact hK.out _ _ hG hx (fun _ _ _ _ h => h)
                  · -- 10: Op.extract t65 1
                    refine StepL.act ?_
                    intro f w1 hG hF K hK
                    have d8 : (bkF z mk M op m rest E) 8 (f 65) (f 0) w1 := hF 8 (by kernel_rfl)
                    clear hF
                    dsimp only at hK ⊢
                    generalize f 65 = v65 at *
                    obtain ⟨x, rfl, hx⟩ := d8
                    go_simp
                    exact hK.out _ _ hG rfl (fun _ _ _ _ h => h)
                  · -- 11: Op.assign t74
                    refine StepL.act ?_
                    intro f w1 hG hF K hK
                    have d9 : (bkF z mk M op m rest E) 9 (f 74) (f 0) w1 := hF 9 (by kernel_rfl)
                    clear hF
                    dsimp only at hK ⊢
                    generalize f 74 = v74 at *
                    obtain ⟨Ax, cx, rfl, h1, h2, h3⟩ := d9
                    go_simp
                    exact hK.out _ _ hG ⟨Ax, cx, rfl, h1, h2, h3⟩ (fun _ _ _ _ h => h)
                  · -- 12: Op.assign t75
                    refine StepL.act ?_
                    intro f w1 hG hF K hK
                    have d10 : (bkF z mk M op m rest E) 10 (f 75) (f 0) w1 := hF 10 (by kernel_rfl)
                    clear hF
                    dsimp only at hK ⊢
                    generalize f 75 = v75 at *
                    subst d10
                    go_simp
                    exact hK.out _ _ hG rfl (fun _ _ _ _ h => h)
                  intro f w5 hG hF
                  have R11 : RowS z w5 (f 18) E.length (u8s E) := hF 11 (by decide)
                  clear hF
                  obtain ⟨Ae, ce, ee, hce, hse, hae⟩ := R11
                  dsimp only
                  rw [ee]
                  generalize f 66 = v66
                  generalize f 67 = v67
                  generalize f 68 = v68
                  generalize f 69 = v69
                  generalize f 70 = v70
                  generalize f 71 = v71
                  generalize f 72 = v72
                  generalize f 73 = v73
                  generalize f 65 = v65
                  generalize f 74 = v74
                  generalize f 75 = v75
                  generalize f 19 = v19
                  have HI5 := Lib.hid hG
                  obtain ⟨B5, r5⟩ := hG.rd
                  obtain ⟨ne, hne⟩ : ∃ x, x = E.length := ⟨_, rfl⟩
                  rw [← hne] at hce
                  rw [← hne]
                  have hacc : acc.size + m ≤ 2000 := by
                    have := congrArg ByteArray.size HJ.out
                    rw [ByteArray.size_append] at this
                    omega
                  have CF := Lib.hid (feed_any gr mk (some (k, acc, [])) B5 Ae ne ce E hne (by have := HEN.out; omega) (st_part k acc (by omega) (by have := HO.out; omega)) HEL.out w5 (hG.tab HT.out) r5 hse)
                  have hres : feedN mk (some (k, acc, [])) E = ([], some (if op = 0 then k else op, acc ++ rest.extract 0 m, [])) := by
                    rw [HE.out]
                    exact feed_part op mk (rest.extract 0 m) M k acc (by have := HO.out; have := HK.out; omega) (by rw [HQ.out]; omega)
                  rw [hres] at CF
                  have HX2 := Lib.hid (show (acc ++ rest.extract 0 m) ++ rest.extract m rest.size = T by rw [ByteArray.append_assoc, ext_join rest m hm, HJ.out])
                  have HO2 := Lib.hid (show ((0 : Nat) = 0 ∧ (if op = 0 then k else op) = K) ∨ ((0 : Nat) = K ∧ (if op = 0 then k else op) = 0) by
                    have := HO.out
                    have := HK.out
                    left
                    refine ⟨rfl, ?_⟩
                    split <;> omega)
                  clear hG ee hse hae hne r5 hacc hres GD HE HEL HJ HO HI
                  go_wp2_with fail
                  refine CF.out.mono ?_
                  rintro e w6 ⟨k6, v6, rfl, o6, hr6⟩
                  have HI6 := Lib.hid (HI5.out.feed k6 (hr6.imp fun _ h => h.1))
                  obtain ⟨A6, c6, rfl, _, s6, _⟩ := own_seg o6
                  have CT := Lib.hid (told_any [] A6 0 c6 rfl (by decide) w6 s6)
                  clear k6 o6 hr6 s6 CF HI5
                  go_wp2_with fail
                  refine CT.out.mono ?_
                  rintro e w7 ⟨v7, rfl, o7, b7⟩
                  obtain ⟨A7, c7, rfl, _, _, _⟩ := own_seg o7
                  have HI7 := Lib.hid (HI6.out.next b7)
                  have R8 := Lib.hid (run_append_none (P := Tryd.prog) w7 z 40 40 46 j0 Tryd.underlying40 hj0 u13 0 3 [] HI7.out.own A7 c7)
                  have i8 : (m : Int) ≤ (rest.size : Int) := by omega
                  clear o7 b7 CT HI6
                  go_wp2_with (at_builtin; refine Lib.wpList_append_run _ rfl _ _ _ _ rfl _ _ rfl rfl _ _ R8.out ?_)
                  go_roundw
                  case rel => exact ⟨i + 1, 0, _, _, _, by omega, by first | rfl | (congr 1; omega), rfl, rfl, HI7, HX2, Lib.hid (HO2.out.imp (fun h => ⟨rfl, h.2⟩) id)⟩
                  case measure => simp [intOf]; omega
          · obtain ⟨p1, hp1⟩ : ∃ x, x = rest.size := ⟨_, rfl⟩
            obtain ⟨E1, hE1⟩ : ∃ E, E = encN ⟨true, 9, mk, P⟩ M := ⟨_, rfl⟩
            obtain ⟨E2, hE2⟩ : ∃ E, E = encN ⟨true, op, mk, rest⟩ M := ⟨_, rfl⟩
            have hop3 : op < 16 := by have := HO.out; have := HK.out; omega
            have HEL1 := Lib.hid (show ∀ x ∈ E1, x < 256 by rw [hE1]; exact encN_lt true 9 mk _ M (by decide) (by omega) HM.out)
            have HEL2 := Lib.hid (show ∀ x ∈ E2, x < 256 by rw [hE2]; exact encN_lt true op mk _ M hop3 (by omega) HM.out)
            have HEN1 := Lib.hid (show E1.length ≤ 5000 by rw [hE1, encN_length]; split <;> split <;> omega)
            have HEN2 := Lib.hid (show E2.length ≤ 5000 by rw [hE2, encN_length]; split <;> split <;> omega)
            have HE1 := Lib.hid hE1
            have HE2 := Lib.hid hE2
            have hacc : acc.size + rest.size ≤ 2000 := by
              have := congrArg ByteArray.size HJ.out
              rw [ByteArray.size_append] at this
              omega
            have F1 := Lib.hid (show feedN mk (some (k, acc, [])) E1 = ([⟨9, P, 0⟩], some (k, acc, [])) by rw [hE1]; exact feed_ping mk P M k acc hP1)
            have F2 := Lib.hid (show feedN mk (some (k, acc, [])) E2 = ([⟨K, T, 0⟩], some (0, ⟨#[]⟩, [])) by
              rw [hE2]
              exact feed_fin op mk rest M k acc K T (by have := HO.out; have := HK.out; omega) (by omega) HJ.out (fun e => by
                have := HK.out
                rcases this with ⟨_, h⟩ | h
                · rw [← HV.out]; exact h
                · omega))
            have HST := Lib.hid (st_part k acc (by omega) (by have := HO.out; omega))
            have HOP := Lib.hid (show op < 16 ∧ rest.size ≤ 4096 ∧ P.size ≤ 4096 from ⟨hop3, by omega, by omega⟩)
            have y0 : wr.cell? ⟨gm, 0, none⟩ = some (.int .u8 (M 0 : Nat)) := HI.out.box.cell 0
            have y1 : wr.cell? ⟨gm, 1, none⟩ = some (.int .u8 (M 1 : Nat)) := HI.out.box.cell 1
            have y2 : wr.cell? ⟨gm, 2, none⟩ = some (.int .u8 (M 2 : Nat)) := HI.out.box.cell 2
            have y3 : wr.cell? ⟨gm, 3, none⟩ = some (.int .u8 (M 3 : Nat)) := HI.out.box.cell 3
            clear hE1 hE2 hop3 hacc hp1 hrs2 HJ HO
            by_cases h1 : i < n
            · have i1 : decide ((i : Int) < (n : Int)) = true := by simp; omega
              have i2 : (i : Int) < (n : Int) := by omega
              have i3 : ¬ (i : Int) < 20 := by omega
              have i4 : decide ((i : Int) < 20) = false := by simp; omega
              go_upto_region 25 with fail
              clear y0 y1 y2 y3
              have y0 : wr.cell? ⟨gm, 0, none⟩ = some (.int .u8 (M 0 : Nat)) := HI.out.box.cell 0
              have y1 : wr.cell? ⟨gm, 1, none⟩ = some (.int .u8 (M 1 : Nat)) := HI.out.box.cell 1
              have y2 : wr.cell? ⟨gm, 2, none⟩ = some (.int .u8 (M 2 : Nat)) := HI.out.box.cell 2
              have y3 : wr.cell? ⟨gm, 3, none⟩ = some (.int .u8 (M 3 : Nat)) := HI.out.box.cell 3
              go_wp2_with fail
              refine (enc_any true mk 9 M P (by decide) HOP.out.2.2 HM.out wr).mono ?_
              rintro e w5 ⟨x5, rfl, o5, b5⟩
              rw [← HE1.out] at o5
              obtain ⟨A5, c5, rfl, _, s5, _⟩ := own_seg o5
              have HI5 := Lib.hid (HI.out.next b5)
              obtain ⟨B5, r5⟩ := HI5.out.rd
              obtain ⟨n1, hn1⟩ : ∃ x, x = E1.length := ⟨_, rfl⟩
              have CF := Lib.hid (feed_any gr mk (some (k, acc, [])) B5 A5 n1 c5 E1 hn1 (by have := HEN1.out; omega) HST.out HEL1.out w5 (HI5.out.tab HT.out) r5 s5)
              rw [F1.out] at CF
              rw [← hn1]
              clear y0 y1 y2 y3 o5 b5 s5 r5 hn1 HI
              go_wp2_with fail
              refine CF.out.mono ?_
              rintro e w6 ⟨k6, v6, rfl, o6, hr6⟩
              have HI6 := Lib.hid (HI5.out.feed k6 (hr6.imp fun _ h => h.1))
              obtain ⟨A6, c6, rfl, _, s6, _⟩ := own_seg (show w6.ownsRow _ 56 3 v6 1 (itsL [⟨9, P, 0⟩]) from o6)
              have CT := Lib.hid (told_any [⟨9, P, 0⟩] A6 1 c6 rfl (by decide) w6 s6)
              clear k6 o6 hr6 s6 CF HI5
              go_wp2_with fail
              refine CT.out.mono ?_
              rintro e w7 ⟨v7, rfl, o7, b7⟩
              obtain ⟨A7, c7, rfl, _, s7, _⟩ := own_seg o7
              obtain ⟨b7a, o7a, hA7, _⟩ := its_at (l := [⟨9, P, 0⟩]) (k := 0) s7 (by simp)
              subst hA7
              have HI7 := Lib.hid (HI6.out.next b7)
              have HN7 := Lib.hid (seg_news s7)
              have y0 : w7.cell? ⟨gm, 0, none⟩ = some (.int .u8 (M 0 : Nat)) := HI7.out.box.cell 0
              have HU := Lib.hid (show w7.ownsRow z 46 3 u13 0 [] from HI7.out.own)
              clear o7 b7 s7 CT HI6 y0
              go_upto_region 27 with (at_builtin; refine wpList_append_lies _ rfl _ _ _ rfl z 46 j0 _ 3 32 Tryd.underlying40 hj0 hy0 hy1 hy2 rfl (by omega) u13 0 [] rfl HU.out ⟨b7a, o7a, none⟩ 1 c7 (itsL [⟨9, P, 0⟩]) rfl rfl HN7.out (it_one _ _ _) (by omega) (by decide) (by decide) HI7.out.le.2.2.2 _ rfl ?_; intro g8 cap8 w8 hown hgrow hat hlt8; have HI8 := Lib.hid (HI7.out.push1 ⟨9, P, 0⟩ hown hgrow); clear hown hgrow hat hlt8)
              have y0 : w8.cell? ⟨gm, 0, none⟩ = some (.int .u8 (M 0 : Nat)) := HI8.out.box.cell 0
              have y1 : w8.cell? ⟨gm, 1, none⟩ = some (.int .u8 (M 1 : Nat)) := HI8.out.box.cell 1
              have y2 : w8.cell? ⟨gm, 2, none⟩ = some (.int .u8 (M 2 : Nat)) := HI8.out.box.cell 2
              have y3 : w8.cell? ⟨gm, 3, none⟩ = some (.int .u8 (M 3 : Nat)) := HI8.out.box.cell 3
              go_wp2_with fail
              refine (enc_any true mk op M rest HOP.out.1 HOP.out.2.1 HM.out w8).mono ?_
              rintro e w9 ⟨x9, rfl, o9, b9⟩
              rw [← HE2.out] at o9
              obtain ⟨A9, c9, rfl, _, s9, _⟩ := own_seg o9
              have HI9 := Lib.hid (HI8.out.next b9)
              obtain ⟨B9, r9⟩ := HI9.out.rd
              obtain ⟨n2, hn2⟩ : ∃ x, x = E2.length := ⟨_, rfl⟩
              have CF := Lib.hid (feed_any gr mk (some (k, acc, [])) B9 A9 n2 c9 E2 hn2 (by have := HEN2.out; omega) HST.out HEL2.out w9 (HI9.out.tab HT.out) r9 s9)
              rw [F2.out] at CF
              rw [← hn2]
              clear y0 y1 y2 y3 o9 b9 s9 r9 hn2 HI8
              go_wp2_with fail
              refine CF.out.mono ?_
              rintro e w10 ⟨k10, v10, rfl, o10, hr10⟩
              have HI10 := Lib.hid (HI9.out.feed k10 (hr10.imp fun _ h => h.1))
              obtain ⟨A10, c10, rfl, _, s10, _⟩ := own_seg (show w10.ownsRow _ 56 3 v10 1 (itsL [⟨K, T, 0⟩]) from o10)
              have CT := Lib.hid (told_any [⟨K, T, 0⟩] A10 1 c10 rfl (by decide) w10 s10)
              clear k10 o10 hr10 s10 CF HI9
              go_wp2_with fail
              refine CT.out.mono ?_
              rintro e w11 ⟨v11, rfl, o11, b11⟩
              obtain ⟨A11, c11, rfl, _, s11, _⟩ := own_seg o11
              obtain ⟨b11a, o11a, hA11, _⟩ := its_at (l := [⟨K, T, 0⟩]) (k := 0) s11 (by simp)
              subst hA11
              have HI11 := Lib.hid (HI10.out.next b11)
              have HN11 := Lib.hid (seg_news s11)
              have HU11 := Lib.hid (show w11.ownsRow z 46 3 (.slice (some ⟨g8, 0, none⟩) 1 cap8) 1 (itsL [⟨9, P, 0⟩]) from HI11.out.own)
              clear o11 b11 s11 CT HI10
              go_upto_region 29 with (at_builtin; refine wpList_append_lies _ rfl _ _ _ rfl z 46 j0 _ 3 32 Tryd.underlying40 hj0 hy0 hy1 hy2 rfl (by omega) _ 1 (itsL [⟨9, P, 0⟩]) rfl HU11.out ⟨b11a, o11a, none⟩ 1 c11 (itsL [⟨K, T, 0⟩]) rfl rfl HN11.out (it_one _ _ _) (by omega) (by decide) (by decide) HI11.out.le.2.2.2 _ rfl ?_; intro g12 cap12 w12 hown hgrow hat hlt12; have HI12 := Lib.hid (HI11.out.push1 ⟨K, T, 0⟩ hown hgrow); clear hown hgrow hat hlt12)
              have HB12 := Lib.hid HI12.out.bel
              have CA := Lib.hid (awake_any w12 (HT.out.bel HB12.out))
              go_wp2_with fail
              refine CA.out.mono ?_
              rintro e w13 ⟨rfl, b13⟩
              have HB13 := Lib.hid (HB12.out.trans (b13.mono HB12.out.size))
              obtain ⟨Ag, cg, eg, _, sg, _⟩ := own_seg (own_belS HI12.out.own b13)
              injection eg with eg1 eg2 eg3
              subst eg1
              subst eg3
              obtain ⟨w14, hw14⟩ : ∃ x, x = w13.alloc (.cells #[.int .i64 9, .string P, .int .i64 0, .int .i64 (K : Int), .string T, .int .i64 0] 46) := ⟨_, rfl⟩
              have b14 : Below w13.heap.size w13 w14 := by rw [hw14]; exact (Below.refl _ _).alloc (Nat.le_refl _) _
              obtain ⟨q14, hq14⟩ : ∃ x, x = w13.heap.size := ⟨_, rfl⟩
              have s14 : Seg w14 (some ⟨q14, 0, none⟩) (itsL [⟨9, P, 0⟩, ⟨K, T, 0⟩]) := by
                rw [hw14, hq14]
                exact Seg.of_block (heap_alloc_new _ _) (fun i _ => by simp [itsL])
              have CS := Lib.hid (isame_any [⟨9, P, 0⟩, ⟨K, T, 0⟩] _ _ 2 cap12 2 rfl (by decide) w14 (sg.bel b14) s14)
              have HB14 := Lib.hid (HB13.out.trans (b14.mono HB13.out.size))
              have HW14 := Lib.hid hw14
              have HQ14 := Lib.hid hq14
              clear b13 sg hw14 b14 hq14 s14 CA HI12
              have HJ0 := Lib.hid hj0
              have HY0 := Lib.hid hy0
              have HY1 := Lib.hid hy1
              clear hj0 hy0 hy1 hy2
              go_wp2_with fail
              refine wp_buildTo _ _ rfl #[.int .i64 9, .string P, .int .i64 0] (by kernel_rfl) ?_
              go_wp2_with fail
              refine wp_buildTo _ _ rfl #[.int .i64 (K : Int), .string T, .int .i64 0] (by kernel_rfl) ?_
              go_wp2_with fail
              refine wp_itemsTo _ 46 _ rfl #[.int .i64 9, .string P, .int .i64 0, .int .i64 (K : Int), .string T, .int .i64 0] j0 _ Tryd.underlying40 HJ0.out HY0.out HY1.out [(0, .agg #[.int .i64 9, .string P, .int .i64 0]), (1, .agg #[.int .i64 (K : Int), .string T, .int .i64 0])] (by kernel_rfl) (fill_items P T K) ?_
              go_wp2_with fail
              rw [← HW14.out, ← HQ14.out]
              refine CS.out.mono ?_
              rintro e w15 ⟨rfl, b15⟩
              have HB15 := Lib.hid (HB14.out.trans (b15.mono HB14.out.size))
              clear b15
              go_wp2_with fail
              go_ret
              exact ⟨rfl, HB15.out⟩
            · have i1 : decide ((i : Int) < (n : Int)) = false := by simp; omega
              have i2 : ¬ (i : Int) < (n : Int) := by omega
              go_upto_region 25 with fail
              clear y0 y1 y2 y3
              have y0 : wr.cell? ⟨gm, 0, none⟩ = some (.int .u8 (M 0 : Nat)) := HI.out.box.cell 0
              have y1 : wr.cell? ⟨gm, 1, none⟩ = some (.int .u8 (M 1 : Nat)) := HI.out.box.cell 1
              have y2 : wr.cell? ⟨gm, 2, none⟩ = some (.int .u8 (M 2 : Nat)) := HI.out.box.cell 2
              have y3 : wr.cell? ⟨gm, 3, none⟩ = some (.int .u8 (M 3 : Nat)) := HI.out.box.cell 3
              go_wp2_with fail
              refine (enc_any true mk 9 M P (by decide) HOP.out.2.2 HM.out wr).mono ?_
              rintro e w5 ⟨x5, rfl, o5, b5⟩
              rw [← HE1.out] at o5
              obtain ⟨A5, c5, rfl, _, s5, _⟩ := own_seg o5
              have HI5 := Lib.hid (HI.out.next b5)
              obtain ⟨B5, r5⟩ := HI5.out.rd
              obtain ⟨n1, hn1⟩ : ∃ x, x = E1.length := ⟨_, rfl⟩
              have CF := Lib.hid (feed_any gr mk (some (k, acc, [])) B5 A5 n1 c5 E1 hn1 (by have := HEN1.out; omega) HST.out HEL1.out w5 (HI5.out.tab HT.out) r5 s5)
              rw [F1.out] at CF
              rw [← hn1]
              clear y0 y1 y2 y3 o5 b5 s5 r5 hn1 HI
              go_wp2_with fail
              refine CF.out.mono ?_
              rintro e w6 ⟨k6, v6, rfl, o6, hr6⟩
              have HI6 := Lib.hid (HI5.out.feed k6 (hr6.imp fun _ h => h.1))
              obtain ⟨A6, c6, rfl, _, s6, _⟩ := own_seg (show w6.ownsRow _ 56 3 v6 1 (itsL [⟨9, P, 0⟩]) from o6)
              have CT := Lib.hid (told_any [⟨9, P, 0⟩] A6 1 c6 rfl (by decide) w6 s6)
              clear k6 o6 hr6 s6 CF HI5
              go_wp2_with fail
              refine CT.out.mono ?_
              rintro e w7 ⟨v7, rfl, o7, b7⟩
              obtain ⟨A7, c7, rfl, _, s7, _⟩ := own_seg o7
              obtain ⟨b7a, o7a, hA7, _⟩ := its_at (l := [⟨9, P, 0⟩]) (k := 0) s7 (by simp)
              subst hA7
              have HI7 := Lib.hid (HI6.out.next b7)
              have HN7 := Lib.hid (seg_news s7)
              have y0 : w7.cell? ⟨gm, 0, none⟩ = some (.int .u8 (M 0 : Nat)) := HI7.out.box.cell 0
              have HU := Lib.hid (show w7.ownsRow z 46 3 u13 0 [] from HI7.out.own)
              clear o7 b7 s7 CT HI6 y0
              go_upto_region 27 with (at_builtin; refine wpList_append_lies _ rfl _ _ _ rfl z 46 j0 _ 3 32 Tryd.underlying40 hj0 hy0 hy1 hy2 rfl (by omega) u13 0 [] rfl HU.out ⟨b7a, o7a, none⟩ 1 c7 (itsL [⟨9, P, 0⟩]) rfl rfl HN7.out (it_one _ _ _) (by omega) (by decide) (by decide) HI7.out.le.2.2.2 _ rfl ?_; intro g8 cap8 w8 hown hgrow hat hlt8; have HI8 := Lib.hid (HI7.out.push1 ⟨9, P, 0⟩ hown hgrow); clear hown hgrow hat hlt8)
              have y0 : w8.cell? ⟨gm, 0, none⟩ = some (.int .u8 (M 0 : Nat)) := HI8.out.box.cell 0
              have y1 : w8.cell? ⟨gm, 1, none⟩ = some (.int .u8 (M 1 : Nat)) := HI8.out.box.cell 1
              have y2 : w8.cell? ⟨gm, 2, none⟩ = some (.int .u8 (M 2 : Nat)) := HI8.out.box.cell 2
              have y3 : w8.cell? ⟨gm, 3, none⟩ = some (.int .u8 (M 3 : Nat)) := HI8.out.box.cell 3
              go_wp2_with fail
              refine (enc_any true mk op M rest HOP.out.1 HOP.out.2.1 HM.out w8).mono ?_
              rintro e w9 ⟨x9, rfl, o9, b9⟩
              rw [← HE2.out] at o9
              obtain ⟨A9, c9, rfl, _, s9, _⟩ := own_seg o9
              have HI9 := Lib.hid (HI8.out.next b9)
              obtain ⟨B9, r9⟩ := HI9.out.rd
              obtain ⟨n2, hn2⟩ : ∃ x, x = E2.length := ⟨_, rfl⟩
              have CF := Lib.hid (feed_any gr mk (some (k, acc, [])) B9 A9 n2 c9 E2 hn2 (by have := HEN2.out; omega) HST.out HEL2.out w9 (HI9.out.tab HT.out) r9 s9)
              rw [F2.out] at CF
              rw [← hn2]
              clear y0 y1 y2 y3 o9 b9 s9 r9 hn2 HI8
              go_wp2_with fail
              refine CF.out.mono ?_
              rintro e w10 ⟨k10, v10, rfl, o10, hr10⟩
              have HI10 := Lib.hid (HI9.out.feed k10 (hr10.imp fun _ h => h.1))
              obtain ⟨A10, c10, rfl, _, s10, _⟩ := own_seg (show w10.ownsRow _ 56 3 v10 1 (itsL [⟨K, T, 0⟩]) from o10)
              have CT := Lib.hid (told_any [⟨K, T, 0⟩] A10 1 c10 rfl (by decide) w10 s10)
              clear k10 o10 hr10 s10 CF HI9
              go_wp2_with fail
              refine CT.out.mono ?_
              rintro e w11 ⟨v11, rfl, o11, b11⟩
              obtain ⟨A11, c11, rfl, _, s11, _⟩ := own_seg o11
              obtain ⟨b11a, o11a, hA11, _⟩ := its_at (l := [⟨K, T, 0⟩]) (k := 0) s11 (by simp)
              subst hA11
              have HI11 := Lib.hid (HI10.out.next b11)
              have HN11 := Lib.hid (seg_news s11)
              have HU11 := Lib.hid (show w11.ownsRow z 46 3 (.slice (some ⟨g8, 0, none⟩) 1 cap8) 1 (itsL [⟨9, P, 0⟩]) from HI11.out.own)
              clear o11 b11 s11 CT HI10
              go_upto_region 29 with (at_builtin; refine wpList_append_lies _ rfl _ _ _ rfl z 46 j0 _ 3 32 Tryd.underlying40 hj0 hy0 hy1 hy2 rfl (by omega) _ 1 (itsL [⟨9, P, 0⟩]) rfl HU11.out ⟨b11a, o11a, none⟩ 1 c11 (itsL [⟨K, T, 0⟩]) rfl rfl HN11.out (it_one _ _ _) (by omega) (by decide) (by decide) HI11.out.le.2.2.2 _ rfl ?_; intro g12 cap12 w12 hown hgrow hat hlt12; have HI12 := Lib.hid (HI11.out.push1 ⟨K, T, 0⟩ hown hgrow); clear hown hgrow hat hlt12)
              have HB12 := Lib.hid HI12.out.bel
              have CA := Lib.hid (awake_any w12 (HT.out.bel HB12.out))
              go_wp2_with fail
              refine CA.out.mono ?_
              rintro e w13 ⟨rfl, b13⟩
              have HB13 := Lib.hid (HB12.out.trans (b13.mono HB12.out.size))
              obtain ⟨Ag, cg, eg, _, sg, _⟩ := own_seg (own_belS HI12.out.own b13)
              injection eg with eg1 eg2 eg3
              subst eg1
              subst eg3
              obtain ⟨w14, hw14⟩ : ∃ x, x = w13.alloc (.cells #[.int .i64 9, .string P, .int .i64 0, .int .i64 (K : Int), .string T, .int .i64 0] 46) := ⟨_, rfl⟩
              have b14 : Below w13.heap.size w13 w14 := by rw [hw14]; exact (Below.refl _ _).alloc (Nat.le_refl _) _
              obtain ⟨q14, hq14⟩ : ∃ x, x = w13.heap.size := ⟨_, rfl⟩
              have s14 : Seg w14 (some ⟨q14, 0, none⟩) (itsL [⟨9, P, 0⟩, ⟨K, T, 0⟩]) := by
                rw [hw14, hq14]
                exact Seg.of_block (heap_alloc_new _ _) (fun i _ => by simp [itsL])
              have CS := Lib.hid (isame_any [⟨9, P, 0⟩, ⟨K, T, 0⟩] _ _ 2 cap12 2 rfl (by decide) w14 (sg.bel b14) s14)
              have HB14 := Lib.hid (HB13.out.trans (b14.mono HB13.out.size))
              have HW14 := Lib.hid hw14
              have HQ14 := Lib.hid hq14
              clear b13 sg hw14 b14 hq14 s14 CA HI12
              have HJ0 := Lib.hid hj0
              have HY0 := Lib.hid hy0
              have HY1 := Lib.hid hy1
              clear hj0 hy0 hy1 hy2
              go_wp2_with fail
              refine wp_buildTo _ _ rfl #[.int .i64 9, .string P, .int .i64 0] (by kernel_rfl) ?_
              go_wp2_with fail
              refine wp_buildTo _ _ rfl #[.int .i64 (K : Int), .string T, .int .i64 0] (by kernel_rfl) ?_
              go_wp2_with fail
              refine wp_itemsTo _ 46 _ rfl #[.int .i64 9, .string P, .int .i64 0, .int .i64 (K : Int), .string T, .int .i64 0] j0 _ Tryd.underlying40 HJ0.out HY0.out HY1.out [(0, .agg #[.int .i64 9, .string P, .int .i64 0]), (1, .agg #[.int .i64 (K : Int), .string T, .int .i64 0])] (by kernel_rfl) (fill_items P T K) ?_
              go_wp2_with fail
              rw [← HW14.out, ← HQ14.out]
              refine CS.out.mono ?_
              rintro e w15 ⟨rfl, b15⟩
              have HB15 := Lib.hid (HB14.out.trans (b15.mono HB14.out.size))
              clear b15
              go_wp2_with fail
              go_ret
              exact ⟨rfl, HB15.out⟩
end Go.Proofs.YtnbhgjionpidnaaDoor
