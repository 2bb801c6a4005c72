/- The walk of the statement on joining: it answers true. Condition: the table of the cyclic sum is laid. -/
import Derived.Test.YthjbkgappjpanaaDoorSBs
namespace Go.Proofs.YthjbkgappjpanaaDoor
open Go.RowKit

theorem tmod_cases (x : Int) (T : Nat) (h : 0 < T) : ∃ q : Nat, q < T ∧ (x.tmod (T : Int) = (q : Int) ∨ (0 < q ∧ x.tmod (T : Int) = -(q : Int))) := by
  have h1 : x.tmod (T : Int) < (T : Int) := Int.tmod_lt_of_pos x (by omega)
  have h2 : -(T : Int) < x.tmod (T : Int) := by
    have := Int.lt_tmod_of_pos x (b := (T : Int)) (by omega)
    exact this
  generalize x.tmod (T : Int) = r at *
  by_cases h0 : 0 ≤ r
  · exact ⟨r.toNat, by omega, .inl (by omega)⟩
  · exact ⟨(-r).toNat, by omega, .inr ⟨by omega, by omega⟩⟩
set_option maxRecDepth 100000 in
set_option maxHeartbeats 1000000 in
theorem joins_any (s : ByteArray) (z : Int) (A0 : Option Addr) (n0 c0 : Nat) (zs : List Int) (w : World) (hz : z ≤ 9223372036854775807) (hs : s.size ≤ 140737488355328) (hn : n0 = zs.length) (hS : Seg w A0 (zs.map (Value.int .i64))) (hzb : ∀ x ∈ zs, -9223372036854775808 ≤ x ∧ x ≤ 9223372036854775807) (hT : Tab w) :
    Calls Tryd.prog 5 #[.string s, .int .i64 z, .slice A0 n0 c0] w fun e w' => e = .returned (.bool true) ∧ Below w.heap.size w w' := by
  have C1 := Lib.hid (split_any s z w hz hs hT)
  have HT := Lib.hid hT
  have HS := Lib.hid hS
  have HN := Lib.hid hn
  have HZB := Lib.hid hzb
  clear hT hS hn hzb
  go_enter Tryd.func5, Tryd.ntmps5
  go_wp2_with fail
  refine C1.out.mono ?_
  rintro e w1 ⟨hb, h⟩
  have HB := Lib.hid hb
  have HA := Lib.hid (awake_any w1 (HT.out.below hb))
  clear hb C1
  rcases h with ⟨hn, rfl⟩ | ⟨_, zn, A, c, rfl, hz1, hs4, ht1, rfl, ho⟩
  · have hn' : ((errN s z : Nat) : Int) ≠ 0 := by omega
    generalize errN s z = n at *
    go_wp2_with fail
    refine HA.out.mono ?_
    rintro e w2 ⟨rfl, hb⟩
    go_wp2_with fail
    go_ret
    exact ⟨rfl, below_step HB.out hb⟩
  · obtain ⟨gl, rfl, hg, hlt, hc⟩ := pcs_at ho (total_pos _ _)
    have HC := Lib.hid hc
    clear ho hc HA
    obtain ⟨T, hTT⟩ : ∃ T, T = totalN s.size zn := ⟨_, rfl⟩
    rw [← hTT] at HC ht1 ⊢
    have hT0 : 0 < T := by rw [hTT]; exact total_pos _ _
    have HTT := Lib.hid hTT
    have hT1 : ((T : Int) == 0) = false := by simp; omega
    clear hTT
    have hzb := zero_box
    obtain ⟨w2, hw2⟩ : ∃ w2, w2 = w1.alloc (.cells zBx 38) := ⟨_, rfl⟩
    obtain ⟨g, hgg⟩ : ∃ g, g = w1.heap.size := ⟨_, rfl⟩
    have HB2 := Lib.hid (show Below w.heap.size w w2 by rw [hw2]; exact HB.out.alloc HB.out.size _)
    have HB12 := Lib.hid (show Below w1.heap.size w1 w2 by rw [hw2]; exact (Below.refl _ _).alloc (Nat.le_refl _) _)
    have BS := Lib.hid (show Bs w2 g s zn T (fun _ => false) by rw [hw2, hgg]; exact bs_new w1 s zn T)
    have hglg : gl ≠ g := by omega
    have hgw : w.heap.size ≤ g := by have := HB.out.size; omega
    have hl2 : gl < w2.heap.size := Nat.lt_of_lt_of_le hlt HB12.out.size
    have HC2 := Lib.hid (fun i j hi hj => (HB12.out.cell (p := ⟨gl, i * 4 + j, none⟩) hlt).trans (HC.out i j hi hj))
    have HW2 := Lib.hid hw2
    have HGG := Lib.hid hgg
    clear hw2 hgg hg hlt HC
    go_wp2_with fail
    rw [← HW2.out, ← HGG.out]
    go_loopw [10] (fun i wr => ∃ k : Nat, k ≤ 100 ∧ i = .int .i64 k ∧ (∃ th, Bs wr g s zn T th) ∧ Onl g w2 wr) (fun i _ => 100 - (intOf i).toNat)
    case atStart => exact ⟨0, by omega, rfl, ⟨_, BS.out⟩, Onl.refl _ _⟩
    case round =>
      obtain ⟨k, hk, rfl, ⟨th, hbs⟩, ho⟩ := hrel
      have HO := Lib.hid ho
      have HBS := Lib.hid hbs
      by_cases hkk : k < n0 ∧ k < 100
      · have i1 : (k : Int) < (n0 : Int) := by omega
        have i2 : (k : Int) < 100 := by omega
        have hkz : k < zs.length := by rw [← HN.out]; exact hkk.1
        obtain ⟨b, off, rfl, hbl, _, hcc⟩ := (HS.out.bel (ho.below HB2.out hgw HB2.out.size)).pick (k := k) (by simpa using hkz)
        obtain ⟨x, hx⟩ : ∃ x, x = zs[k] := ⟨_, rfl⟩
        have hcc' : wr.cell? ⟨b, off + k, none⟩ = some (.int .i64 x) := by rw [hcc, hx]; simp
        have hxb := HZB.out x (by rw [hx]; exact List.getElem_mem hkz)
        obtain ⟨q, hqT, hq⟩ := tmod_cases x T hT0
        have p0 : wr.cell? ⟨gl, q * 4, none⟩ = some (.int .i64 (q : Int)) := (ho.cell (i := q * 4) hl2 hglg).trans (HC2.out q 0 hqT (by decide))
        have p1 : wr.cell? ⟨gl, q * 4 + 1, none⟩ = some (.int .i64 (T : Int)) := (ho.cell (i := q * 4 + 1) hl2 hglg).trans (HC2.out q 1 hqT (by decide))
        have p2 : wr.cell? ⟨gl, q * 4 + 2, none⟩ = some (.int .u32 ((sumN s : Nat) : Int)) := (ho.cell (i := q * 4 + 2) hl2 hglg).trans (HC2.out q 2 hqT (by decide))
        have p3 : wr.cell? ⟨gl, q * 4 + 3, none⟩ = some (.string (cutS s zn q)) := (ho.cell (i := q * 4 + 3) hl2 hglg).trans (HC2.out q 3 hqT (by decide))
        have CT := Lib.hid (bs_take g s zn T q th wr hs4 hbs ht1 hqT)
        have j1 : (q : Int) < (T : Int) := by omega
        have j2 : (0 : Int) ≤ (q : Int) := by omega
        clear hcc hx hkz hkk hbs ho
        rcases hq with hq | ⟨hq0, hq⟩
        · have hq1 : ¬ (q : Int) < 0 := by omega
          go_wp2_with fail
          refine CT.out.mono ?_
          rintro e w4 ⟨⟨bb, rr, rfl⟩, hbs4, ho4⟩
          have HBS4 := Lib.hid hbs4
          have HO4 := Lib.hid (HO.out.trans ho4)
          clear hbs4 ho4
          go_wp2_with fail
          exact ⟨⟨k + 1, by omega, by go_num, ⟨_, HBS4.out⟩, HO4.out⟩, by simp [intOf]; omega⟩
        · have hq1 : -(q : Int) < 0 := by omega
          go_wp2_with fail
          refine CT.out.mono ?_
          rintro e w4 ⟨⟨bb, rr, rfl⟩, hbs4, ho4⟩
          have HBS4 := Lib.hid hbs4
          have HO4 := Lib.hid (HO.out.trans ho4)
          clear hbs4 ho4
          go_wp2_with fail
          exact ⟨⟨k + 1, by omega, by go_num, ⟨_, HBS4.out⟩, HO4.out⟩, by simp [intOf]; omega⟩
      · have HB3 := Lib.hid (ho.below HB2.out hgw HB2.out.size)
        have CM := Lib.hid (bs_miss g s zn T th wr hbs ht1)
        clear hbs ho
        by_cases hkn : k < n0
        · have i1 : (k : Int) < (n0 : Int) := by omega
          have i2 : ¬ (k : Int) < 100 := by omega
          clear hkk hkn
          go_wp2_with fail
          refine CM.out.mono ?_
          rintro e w3 ⟨⟨A3, n3, c3, rfl, hn3, _⟩, hb3⟩
          have BS3 := Lib.hid (HBS.out.bel hb3)
          have HO3 := Lib.hid (HO.out.trans (Onl.of_below hb3))
          have HZ3 := Lib.hid (Nat.le_trans HO.out.size hb3.size)
          clear hb3 CM HBS HO
          go_wp2_with fail
          go_loopw [57] (fun i wq => ∃ j : Nat, j ≤ T ∧ i = .int .i64 j ∧ (∃ th, Bs wq g s zn T th ∧ ∀ i, T - j ≤ i → i < T → th i = true) ∧ Onl g w3 wq) (fun i _ => T - (intOf i).toNat)
          case atStart => exact ⟨0, by omega, rfl, ⟨_, BS3.out, fun i h1 h2 => by omega⟩, Onl.refl _ _⟩
          case round =>
            obtain ⟨j, hj, rfl, ⟨th2, hbs, hall⟩, ho⟩ := hrel
            have HO4 := Lib.hid (HO3.out.trans ho)
            by_cases hjT : j < T
            · obtain ⟨q, hq⟩ : ∃ q, q = T - 1 - j := ⟨_, rfl⟩
              have hqT : q < T := by omega
              have hqI : (T : Int) - 1 - (j : Int) = (q : Int) := by omega
              have hq0 : (0 : Int) ≤ (q : Int) := by omega
              have hqJ : (q : Int) < (T : Int) := by omega
              have hjI : (j : Int) < (T : Int) := by omega
              have p0 : wr.cell? ⟨gl, q * 4, none⟩ = some (.int .i64 (q : Int)) := (HO4.out.cell (i := q * 4) hl2 hglg).trans (HC2.out q 0 hqT (by decide))
              have p1 : wr.cell? ⟨gl, q * 4 + 1, none⟩ = some (.int .i64 (T : Int)) := (HO4.out.cell (i := q * 4 + 1) hl2 hglg).trans (HC2.out q 1 hqT (by decide))
              have p2 : wr.cell? ⟨gl, q * 4 + 2, none⟩ = some (.int .u32 ((sumN s : Nat) : Int)) := (HO4.out.cell (i := q * 4 + 2) hl2 hglg).trans (HC2.out q 2 hqT (by decide))
              have p3 : wr.cell? ⟨gl, q * 4 + 3, none⟩ = some (.string (cutS s zn q)) := (HO4.out.cell (i := q * 4 + 3) hl2 hglg).trans (HC2.out q 3 hqT (by decide))
              have CT := Lib.hid (bs_take g s zn T q th2 wr hs4 hbs ht1 hqT)
              have HALL := Lib.hid (show ∀ i, T - (j + 1) ≤ i → i < T → updT th2 q i = true from fun i h1 h2 => by
                unfold updT
                by_cases e : i = q
                · rw [if_pos e]
                · rw [if_neg e]; exact hall i (by omega) h2)
              have HOq := Lib.hid ho
              clear hq hbs hall ho
              go_wp2_with fail
              refine CT.out.mono ?_
              rintro e w4 ⟨⟨bb, rr, rfl⟩, hbs4, ho4⟩
              have HBS4 := Lib.hid hbs4
              have HO5 := Lib.hid (HOq.out.trans ho4)
              clear hbs4 ho4
              go_wp2_with fail
              exact ⟨⟨j + 1, by omega, by go_num, ⟨_, HBS4.out, HALL.out⟩, HO5.out⟩, by simp [intOf]; omega⟩
            · obtain rfl : j = T := by omega
              have hal : ∀ i, i < j → th2 i = true := fun i hi => hall i (by omega) hi
              have hbel : Below w.heap.size w wr := HO4.out.below HB2.out hgw HB2.out.size
              have CX := Lib.hid (bs_text g s zn j th2 wr hz1 hs4 hbs ht1 HTT.out hal (HT.out.below hbel))
              have HBS5 := Lib.hid hbs
              have HAL := Lib.hid hal
              have HBEL := Lib.hid hbel
              have hn3I : (n3 : Int) ≤ (j : Int) := by omega
              clear hbs hall ho hal hbel
              go_wp2_with fail
              refine CX.out.mono ?_
              rintro e w5 ⟨rfl, hb5⟩
              have CA := Lib.hid (awake_any w5 (HT.out.below (HBEL.out.trans (hb5.mono HBEL.out.size))))
              have BS6 := Lib.hid (HBS5.out.bel hb5)
              have HB6 := Lib.hid (below_step HBEL.out hb5)
              clear hb5 CX
              go_wp2_with fail
              refine CA.out.mono ?_
              rintro e w6 ⟨rfl, hb6⟩
              have CN := Lib.hid (bs_miss g s zn j th2 w6 (BS6.out.bel hb6) ht1)
              have HB7 := Lib.hid (below_step HB6.out hb6)
              clear hb6 CA
              go_wp2_with fail
              refine CN.out.mono ?_
              rintro e w7 ⟨⟨A7, n7, c7, rfl, _, hn7⟩, hb7⟩
              obtain rfl := hn7 HAL.out
              have HB8 := Lib.hid (below_step HB7.out hb7)
              clear hb7 CN hn7
              go_wp2_with fail
              go_ret
              exact ⟨rfl, HB8.out⟩
        · have i1 : ¬ (k : Int) < (n0 : Int) := by omega
          clear hkk hkn
          go_wp2_with fail
          refine CM.out.mono ?_
          rintro e w3 ⟨⟨A3, n3, c3, rfl, hn3, _⟩, hb3⟩
          have BS3 := Lib.hid (HBS.out.bel hb3)
          have HO3 := Lib.hid (HO.out.trans (Onl.of_below hb3))
          have HZ3 := Lib.hid (Nat.le_trans HO.out.size hb3.size)
          clear hb3 CM HBS HO
          go_wp2_with fail
          go_loopw [57] (fun i wq => ∃ j : Nat, j ≤ T ∧ i = .int .i64 j ∧ (∃ th, Bs wq g s zn T th ∧ ∀ i, T - j ≤ i → i < T → th i = true) ∧ Onl g w3 wq) (fun i _ => T - (intOf i).toNat)
          case atStart => exact ⟨0, by omega, rfl, ⟨_, BS3.out, fun i h1 h2 => by omega⟩, Onl.refl _ _⟩
          case round =>
            obtain ⟨j, hj, rfl, ⟨th2, hbs, hall⟩, ho⟩ := hrel
            have HO4 := Lib.hid (HO3.out.trans ho)
            by_cases hjT : j < T
            · obtain ⟨q, hq⟩ : ∃ q, q = T - 1 - j := ⟨_, rfl⟩
              have hqT : q < T := by omega
              have hqI : (T : Int) - 1 - (j : Int) = (q : Int) := by omega
              have hq0 : (0 : Int) ≤ (q : Int) := by omega
              have hqJ : (q : Int) < (T : Int) := by omega
              have hjI : (j : Int) < (T : Int) := by omega
              have p0 : wr.cell? ⟨gl, q * 4, none⟩ = some (.int .i64 (q : Int)) := (HO4.out.cell (i := q * 4) hl2 hglg).trans (HC2.out q 0 hqT (by decide))
              have p1 : wr.cell? ⟨gl, q * 4 + 1, none⟩ = some (.int .i64 (T : Int)) := (HO4.out.cell (i := q * 4 + 1) hl2 hglg).trans (HC2.out q 1 hqT (by decide))
              have p2 : wr.cell? ⟨gl, q * 4 + 2, none⟩ = some (.int .u32 ((sumN s : Nat) : Int)) := (HO4.out.cell (i := q * 4 + 2) hl2 hglg).trans (HC2.out q 2 hqT (by decide))
              have p3 : wr.cell? ⟨gl, q * 4 + 3, none⟩ = some (.string (cutS s zn q)) := (HO4.out.cell (i := q * 4 + 3) hl2 hglg).trans (HC2.out q 3 hqT (by decide))
              have CT := Lib.hid (bs_take g s zn T q th2 wr hs4 hbs ht1 hqT)
              have HALL := Lib.hid (show ∀ i, T - (j + 1) ≤ i → i < T → updT th2 q i = true from fun i h1 h2 => by
                unfold updT
                by_cases e : i = q
                · rw [if_pos e]
                · rw [if_neg e]; exact hall i (by omega) h2)
              have HOq := Lib.hid ho
              clear hq hbs hall ho
              go_wp2_with fail
              refine CT.out.mono ?_
              rintro e w4 ⟨⟨bb, rr, rfl⟩, hbs4, ho4⟩
              have HBS4 := Lib.hid hbs4
              have HO5 := Lib.hid (HOq.out.trans ho4)
              clear hbs4 ho4
              go_wp2_with fail
              exact ⟨⟨j + 1, by omega, by go_num, ⟨_, HBS4.out, HALL.out⟩, HO5.out⟩, by simp [intOf]; omega⟩
            · obtain rfl : j = T := by omega
              have hal : ∀ i, i < j → th2 i = true := fun i hi => hall i (by omega) hi
              have hbel : Below w.heap.size w wr := HO4.out.below HB2.out hgw HB2.out.size
              have CX := Lib.hid (bs_text g s zn j th2 wr hz1 hs4 hbs ht1 HTT.out hal (HT.out.below hbel))
              have HBS5 := Lib.hid hbs
              have HAL := Lib.hid hal
              have HBEL := Lib.hid hbel
              have hn3I : (n3 : Int) ≤ (j : Int) := by omega
              clear hbs hall ho hal hbel
              go_wp2_with fail
              refine CX.out.mono ?_
              rintro e w5 ⟨rfl, hb5⟩
              have CA := Lib.hid (awake_any w5 (HT.out.below (HBEL.out.trans (hb5.mono HBEL.out.size))))
              have BS6 := Lib.hid (HBS5.out.bel hb5)
              have HB6 := Lib.hid (below_step HBEL.out hb5)
              clear hb5 CX
              go_wp2_with fail
              refine CA.out.mono ?_
              rintro e w6 ⟨rfl, hb6⟩
              have CN := Lib.hid (bs_miss g s zn j th2 w6 (BS6.out.bel hb6) ht1)
              have HB7 := Lib.hid (below_step HB6.out hb6)
              clear hb6 CA
              go_wp2_with fail
              refine CN.out.mono ?_
              rintro e w7 ⟨⟨A7, n7, c7, rfl, _, hn7⟩, hb7⟩
              obtain rfl := hn7 HAL.out
              have HB8 := Lib.hid (below_step HB7.out hb7)
              clear hb7 CN hn7
              go_wp2_with fail
              go_ret
              exact ⟨rfl, HB8.out⟩
end Go.Proofs.YthjbkgappjpanaaDoor
