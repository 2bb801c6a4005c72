/- ParleyBlocks: what a torn block holds, and what Decode says of a block that Encode made. Condition: the block lies in memory; the table of the cyclic sum is laid. -/
import Derived.Test.YtockmpnclajjmaaDoorDiskG
import Derived.Test.YtockmpnclajjmaaDoorDecode
import Derived.Deep.RegionHeld3
import Derived.Test.YtockmpnclajjmaaDoorStableG
namespace Go.Proofs.YtockmpnclajjmaaDoor
open Go.RowKit

theorem block_back (k s p : Nat) (pl : List Nat) (n : Nat) (hn : n = pl.length) (b off c : Nat) (hc : 256 ≤ c) (hk : k < 256) (hs : s < 18446744073709551616) (hp : p < 2048) (hl : pl.length ≤ 232) (hpl : ∀ x ∈ pl, x < 256) (w : World) (hA : Seg w (some ⟨b, off, none⟩) (u8s (encN k s pl p))) (hT : Tab w) :
    Calls Tryd.prog 10 #[.slice (some ⟨b, off, none⟩) 256 c, .int .i64 p] w fun e w' => ∃ A' c', e = .returned (.tuple #[.agg #[.int .i64 k, .int .u64 s, .slice A' n c'], .int .i64 0]) ∧ Seg w' A' (u8s pl) ∧ Below w.heap.size w w' := by
  have hlen := encN_length k s pl p hl
  have hle : leGet (((encN k s pl p).drop 4).take 2) ≤ 232 := by
    rw [encN_len, leGet_leN, Nat.mod_eq_of_lt (Nat.lt_of_le_of_lt hl (by decide))]; exact hl
  refine (decode_main b off c (encN k s pl p) hlen.symm hc (p : Int) w hA (encN_lt k s pl p hk hpl) hT hle).mono ?_
  rintro e w' (⟨_, A', c', _, rfl, _, hS, hb⟩ | ⟨hf, _, _⟩)
  · rw [say_enc k s pl p hs hl] at hS ⊢
    exact ⟨A', c', by rw [hn], hS, hb⟩
  · exact absurd (fits_enc k s pl p hs hl hp) hf
theorem same_yes (A B : Option Addr) (n m c d : Nat) (x : List Nat) (hn : n = x.length) (hm : m = x.length) (w : World) (hA : Seg w A (u8s x)) (hB : Seg w B (u8s x)) (hx : n ≤ 140737488355328) (hy : m ≤ 140737488355328) :
    Calls Tryd.prog 11 #[.slice A n c, .slice B m d] w fun e w' => e = .returned (.bool true) ∧ Below w.heap.size w w' := by
  have := same_u8 A B n m c d x x hn hm w hA hB hx hy
  simpa using this
/-- A block of which the first s sectors are new. -/
def mixB (X Y : List Nat) (s : Nat) : List Nat := Y.take (s * 32) ++ X.drop (s * 32)
theorem mixB_length {X Y : List Nat} {s : Nat} (hX : X.length = 256) (hY : Y.length = 256) (hs : s ≤ 8) : (mixB X Y s).length = 256 := by
  simp only [mixB, List.length_append, List.length_take, List.length_drop, hX, hY]
  omega
theorem mixB_sector {X Y : List Nat} {s : Nat} (hY : Y.length = 256) (k : Nat) (hk : k < 8) :
    ((mixB X Y s).drop (k * 32)).take 32 = (if k < s then (Y.drop (k * 32)).take 32 else (X.drop (k * 32)).take 32) := by
  apply List.ext_getElem?
  intro i
  by_cases hi : i < 32
  · by_cases hks : k < s
    · rw [if_pos hks, List.getElem?_take_of_lt hi, List.getElem?_take_of_lt hi, List.getElem?_drop, List.getElem?_drop, mixB, List.getElem?_append_left (by rw [List.length_take, hY]; omega), List.getElem?_take_of_lt (by omega)]
    · rw [if_neg hks, List.getElem?_take_of_lt hi, List.getElem?_take_of_lt hi, List.getElem?_drop, List.getElem?_drop, mixB, List.getElem?_append_right (by rw [List.length_take, hY]; omega), List.getElem?_drop]
      congr 1
      rw [List.length_take, hY]
      omega
  · rw [List.getElem?_eq_none (by rw [List.length_take]; omega)]
    split
    all_goals rw [List.getElem?_eq_none (by rw [List.length_take]; omega)]
theorem put_second (img news : List Nat) (hi : img.length = 2 * 256) (hn : news.length ≤ 256) : ((putB img (1 * 256) news).drop (1 * 256)).take 256 = news ++ (((img.drop (1 * 256)).take 256).drop news.length) := by
  have e1 : (img.take (1 * 256)).length = 256 := by rw [List.length_take, hi]; omega
  unfold putB
  rw [List.drop_append_of_le_length (by rw [e1]; omega), List.drop_eq_nil_of_le (by rw [e1]; omega), List.nil_append, List.take_append, List.take_of_length_le (by omega)]
  congr 1
  rw [List.drop_take, List.drop_drop]
/-- The disk behind the first write, its flush and a crash. -/
def D3 (X : List Nat) : DM := (((DM.new 2).put 1 X).flush).crash 0 (-1) 0
theorem d3_img (X : List Nat) (hX : X.length = 256) : ((D3 X).img.drop (1 * 256)).take 256 = X ∧ (D3 X).img.length = 2 * 256 := by
  have h0 : (List.replicate (2 * 256) 0).length = 2 * 256 := List.length_replicate ..
  have hXt : X.take (8 * 32) = X := List.take_of_length_le (by omega)
  have e : (D3 X).img = putB (List.replicate (2 * 256) 0) (1 * 256) (X.take (8 * 32)) := rfl
  rw [e, hXt]
  refine ⟨?_, ?_⟩
  · rw [put_second _ _ h0 (by omega), List.drop_eq_nil_of_le (by rw [List.length_take]; omega), List.append_nil]
  · rw [putB_length _ _ _ (by rw [h0, hX]; omega), h0]
theorem d5_rd (X Y : List Nat) (hX : X.length = 256) (hY : Y.length = 256) (keep : Nat) (tear sectors : Int) : (((D3 X).put 1 Y).crash keep tear sectors).rd 1 = mixB X Y (crashS keep tear sectors 0) := by
  have hs := crashS_le keep tear sectors 0
  obtain ⟨h1, h2⟩ := d3_img X hX
  have e : (((D3 X).put 1 Y).crash keep tear sectors).img = putB (D3 X).img (1 * 256) (Y.take (crashS keep tear sectors 0 * 32)) := rfl
  show ((((D3 X).put 1 Y).crash keep tear sectors).img.drop (1 * 256)).take 256 = _
  rw [e, put_second _ _ h2 (by rw [List.length_take]; omega), h1, mixB, List.length_take, hY, Nat.min_eq_left (by omega)]
/-- The payload that counts: at most 232 bytes. -/
def upTo (n m : Nat) : Prop := (¬ 232 < n ∧ m = n) ∨ (232 < n ∧ m = 232)
def cF (c : List Value) (i : Nat) (v _u : Value) (_w : World) : Prop := match c[i]? with
  | some x => v = x
  | none => True
theorem wpAnyH_listed {P : Program} {md : Region.Mode} {ops : Array Oper} {Q : Exit → Act → World → Prop} {S : World → Prop} {fuel : Nat} {listed listed' : Array Bool} {a : Act} {w : World} (h : listed = listed') (hh : wpAnyH P md ops Q S fuel listed' a w) : wpAnyH P md ops Q S fuel listed a w := h ▸ hh
section
variable {w : World}
set_option maxRecDepth 100000 in
set_option maxHeartbeats 16000000 in
theorem pblocks_any (seq s2 : Nat) (hs : seq < 18446744073709551616) (hs2 : s2 < 18446744073709551616) (t1 : IntKind.u64.wrap ((seq : Int) + 1) = (s2 : Int)) (A B : Option Addr) (n ca m cb na nb : Nat) (la lb : List Nat) (hn : n = la.length) (hm : m = lb.length) (hna : upTo n na) (hmb : upTo m nb)
    (hnc : n ≤ ca) (hmc : m ≤ cb) (hnz : n ≤ 140737488355328) (hmz : m ≤ 140737488355328) (hSA : Seg w A (u8s la)) (hSB : Seg w B (u8s lb)) (hla : ∀ x ∈ la, x < 256) (hlb : ∀ x ∈ lb, x < 256) (keep : Nat) (hkeep : keep < 18446744073709551616) (tear sectors : Int) (hT : Tab w) :
    Calls Tryd.prog 3 #[.int .u64 (seq : Int), .slice A n ca, .slice B m cb, .int .u64 (keep : Int), .int .i64 tear, .int .i64 sectors] w fun e w' => e = .returned (.bool true) ∧ Below w.heap.size w w' := by
  have ha2 : na ≤ 232 ∧ na ≤ n := by rcases hna with h | h <;> omega
  have hb2 : nb ≤ 232 ∧ nb ≤ m := by rcases hmb with h | h <;> omega
  obtain ⟨pa, hpa⟩ : ∃ pa, pa = la.take na := ⟨_, rfl⟩
  obtain ⟨pb, hpb⟩ : ∃ pb, pb = lb.take nb := ⟨_, rfl⟩
  have HPA := Lib.hid (show na = pa.length by rw [hpa, List.length_take]; omega)
  have HPB := Lib.hid (show nb = pb.length by rw [hpb, List.length_take]; omega)
  have HSA := Lib.hid (show Seg w A (u8s pa) by rw [hpa]; have := hSA.take na; rwa [show (u8s la).take na = u8s (la.take na) by simp [u8s, List.map_take]] at this)
  have HSB := Lib.hid (show Seg w B (u8s pb) by rw [hpb]; have := hSB.take nb; rwa [show (u8s lb).take nb = u8s (lb.take nb) by simp [u8s, List.map_take]] at this)
  have HLA := Lib.hid (show ∀ x ∈ pa, x < 256 by rw [hpa]; exact fun x hx => hla x (List.mem_of_mem_take hx))
  have HLB := Lib.hid (show ∀ x ∈ pb, x < 256 by rw [hpb]; exact fun x hx => hlb x (List.mem_of_mem_take hx))
  obtain ⟨X, hX⟩ : ∃ X, X = encN 1 seq pa 1 := ⟨_, rfl⟩
  obtain ⟨Y, hY⟩ : ∃ Y, Y = encN 1 s2 pb 1 := ⟨_, rfl⟩
  have HX := Lib.hid (show X.length = 256 by rw [hX]; exact encN_length _ _ _ _ (by rw [← HPA.out]; exact ha2.1))
  have HY := Lib.hid (show Y.length = 256 by rw [hY]; exact encN_length _ _ _ _ (by rw [← HPB.out]; exact hb2.1))
  have HXe := Lib.hid hX
  have HYe := Lib.hid hY
  have HKP := Lib.hid hkeep
  have HT := Lib.hid hT
  have HS := Lib.hid hs
  have HS2 := Lib.hid hs2
  have HN : Hid (Calls Tryd.prog 4 #[.int .i64 2] w fun e w' => ∃ p S, e = .returned (.tuple #[.pointer (some ⟨p, 0, none⟩), .int .i64 0]) ∧ Dsk w' S p 2 (DM.new 2) ∧ (∀ i, S i → w.heap.size ≤ i) ∧ Below w.heap.size w w') := Lib.hid (new_ok 2 (by omega) (by omega) w)
  clear hpa hpb hX hY hkeep hT hn hm hSA hSB hla hlb hs hs2
  obtain ⟨ha2, ha3⟩ := ha2
  obtain ⟨hb2q, hb3q⟩ := hb2
  rcases hna with ⟨g1, rfl⟩ | ⟨g1, rfl⟩ <;> rcases hmb with ⟨g2, rfl⟩ | ⟨g2, rfl⟩
  all_goals
    go_enter Tryd.func3, Tryd.ntmps3
    go_wp2_with fail
    refine HN.out.mono ?_
    rintro e w1 ⟨p, S, rfl, hD, hSw, hb1⟩
    have HB1 := Lib.hid hb1
    have HD1 := Lib.hid hD
    have HSw := Lib.hid hSw
    have HE1 : Hid (Calls Tryd.prog 5 #[.agg #[.int .i64 1, .int .u64 (seq : Int), .slice A _ ca], .int .i64 1] w1 fun e w' => ∃ g, e = .returned (.tuple #[.slice (some ⟨g, 0, none⟩) 256 256, .int .i64 0]) ∧ w1.heap.size ≤ g ∧ Bk w' g 5 (u8s (encN 1 seq pa 1)).toArray ∧ Below w1.heap.size w1 w') :=
      Lib.hid (encode_ok 1 seq 1 A _ ca pa HPA.out (by omega) HS.out (by omega) ha2 w1 (HSA.out.bel hb1) HLA.out (HT.out.below hb1))
    clear hD hSw hb1
    go_wp2_with fail
    refine HE1.out.mono ?_
    rintro e w2 ⟨ga, rfl, hga, hbka, hb2⟩
    rw [← HXe.out] at hbka
    have HB2 := Lib.hid (HB1.out.trans (hb2.mono HB1.out.size))
    have HGA := Lib.hid hga
    have HKA := Lib.hid hbka
    have HD2 := Lib.hid (HD1.out.bel hb2)
    have HE2 : Hid (Calls Tryd.prog 5 #[.agg #[.int .i64 1, .int .u64 (s2 : Int), .slice B _ cb], .int .i64 1] w2 fun e w' => ∃ g, e = .returned (.tuple #[.slice (some ⟨g, 0, none⟩) 256 256, .int .i64 0]) ∧ w2.heap.size ≤ g ∧ Bk w' g 5 (u8s (encN 1 s2 pb 1)).toArray ∧ Below w2.heap.size w2 w') :=
      Lib.hid (encode_ok 1 s2 1 B _ cb pb HPB.out (by omega) HS2.out (by omega) hb2q w2 (HSB.out.bel HB2.out) HLB.out (HT.out.below HB2.out))
    clear hga hbka hb2
    go_wp2_with fail
    refine HE2.out.mono ?_
    rintro e w3 ⟨gb, rfl, hgb, hbkb, hb3⟩
    rw [← HYe.out] at hbkb
    have HB3 := Lib.hid (HB2.out.trans (hb3.mono HB2.out.size))
    have HSa := Lib.hid (show ¬ S ga from fun hs => by have := HD1.out.inn _ hs; have := HGA.out; omega)
    have HSb := Lib.hid (show ¬ S gb from fun hs => by have := HD2.out.inn _ hs; omega)
    have HKA3 := Lib.hid (HKA.out.bel hb3)
    have HKB3 := Lib.hid hbkb
    have HD3 := Lib.hid (HD2.out.bel hb3)
    have HW : Hid (Calls Tryd.prog 6 #[.pointer (some ⟨p, 0, none⟩), .int .i64 1, .slice (some ⟨ga, 0, none⟩) 256 256] w3 fun e w' => e = .returned (.int .i64 0) ∧ ∃ S', Dsk w' S' p 2 ((DM.new 2).put 1 X) ∧ Kp S S' w3 w') :=
      Lib.hid (write_ok HD3.out (DM.use_off rfl) 1 (some ⟨ga, 0, none⟩) 256 X HX.out (Seg.of_block HKA3.out (fun i _ => by simp)) (fun a ha => by cases ha; exact HSa.out) (by omega) (show (0 : Nat) < 64 by omega))
    clear hgb hbkb hb3
    go_wp2_with fail
    refine HW.out.mono ?_
    rintro e w4 ⟨rfl, S4, hD4, hk4⟩
    have HK4 := Lib.hid hk4
    have HKA4 := Lib.hid (hk4.bk HKA3.out HSa.out)
    have HKB4 := Lib.hid (hk4.bk HKB3.out HSb.out)
    have HSa4 := Lib.hid (hk4.far HKA3.out.lt HSa.out)
    have HSb4 := Lib.hid (hk4.far HKB3.out.lt HSb.out)
    have HB4 := Lib.hid (HB3.out.trans (hk4.below HSw.out HB3.out.size))
    have HSw4 := Lib.hid (show ∀ i, S4 i → w.heap.size ≤ i from fun i hi => (hk4.news i hi).elim (HSw.out i) (fun h => Nat.le_trans HB3.out.size h))
    have HF := Lib.hid (flush_ok hD4 (DM.use_off rfl))
    clear hD4 hk4
    go_wp2_with fail
    refine HF.out.mono ?_
    rintro e w5 ⟨rfl, hD5, hk5⟩
    have HKA5 := Lib.hid (hk5.bk HKA4.out HSa4.out)
    have HKB5 := Lib.hid (hk5.bk HKB4.out HSb4.out)
    have HB5 := Lib.hid (HB4.out.trans (hk5.below HSw4.out HB4.out.size))
    have HC : Hid (Calls Tryd.prog 8 #[.pointer (some ⟨p, 0, none⟩), .int .u64 0, .int .i64 (-1), .int .i64 0] w5 fun e w' => e = .returned (.tuple #[]) ∧ Dsk w' S4 p 2 (D3 X) ∧ Kp S4 S4 w5 w') :=
      Lib.hid (crash_any hD5 0 (by omega) (-1) 0)
    clear hD5 hk5
    go_wp2_with fail
    refine HC.out.mono ?_
    rintro e w6 ⟨rfl, hD6, hk6⟩
    have HKA6 := Lib.hid (hk6.bk HKA5.out HSa4.out)
    have HKB6 := Lib.hid (hk6.bk HKB5.out HSb4.out)
    have HB6 := Lib.hid (HB5.out.trans (hk6.below HSw4.out HB5.out.size))
    have HD6 := Lib.hid hD6
    have HR : Hid (Calls Tryd.prog 9 #[.pointer (some ⟨p, 0, none⟩), .int .i64 1] w6 fun e w' => ∃ A' c', e = .returned (.tuple #[.slice A' 256 c', .int .i64 0]) ∧ 256 ≤ c' ∧ w'.ownsRow w6.heap.size 5 1 (.slice A' 256 c') 256 (u8s X) ∧ Below w6.heap.size w6 w') := Lib.hid (by
      have := hD6.read_ok 1 (by omega)
      rw [show (D3 X).rd 1 = X from (d3_img X HX.out).1] at this
      exact this)
    clear hD6 hk6
    go_wp2_with fail
    refine HR.out.mono ?_
    rintro e w7 ⟨A7, c7, rfl, hc7, hown7, hb7⟩
    obtain ⟨g7, cap7, hv7, hge7, hgl7⟩ := hown7.form (by omega)
    injection hv7 with e1 e2 e3
    subst e1
    subst e3
    have HB7 := Lib.hid (HB6.out.trans (hb7.mono HB6.out.size))
    have HD7 := Lib.hid (HD6.out.bel hb7)
    have HKA7 := Lib.hid (HKA6.out.bel hb7)
    have HKB7 := Lib.hid (HKB6.out.bel hb7)
    have HDe : Hid (Calls Tryd.prog 10 #[.slice (some ⟨g7, 0, none⟩) 256 c7, .int .i64 1] w7 fun e w' => ∃ A' c', e = .returned (.tuple #[.agg #[.int .i64 1, .int .u64 (seq : Int), .slice A' _ c'], .int .i64 0]) ∧ Seg w' A' (u8s pa) ∧ Below w7.heap.size w7 w') :=
      Lib.hid (block_back 1 seq 1 pa _ HPA.out g7 0 c7 hc7 (by omega) HS.out (by omega) (by rw [← HPA.out]; exact ha2) HLA.out w7 (by rw [← HXe.out]; exact Seg.of_own hown7) (HT.out.below HB7.out))
    clear hc7 hown7 hb7 hge7 hgl7
    go_wp2_with fail
    refine HDe.out.mono ?_
    rintro e w8 ⟨A8, c8, rfl, hS8, hb8⟩
    have HB8 := Lib.hid (HB7.out.trans (hb8.mono HB7.out.size))
    have HD8 := Lib.hid (HD7.out.bel hb8)
    have HKA8 := Lib.hid (HKA7.out.bel hb8)
    have HKB8 := Lib.hid (HKB7.out.bel hb8)
    have HS8 := Lib.hid hS8
    clear hS8 hb8
    go_wp2_with fail
    have HB9a := Lib.hid (fun o => (Below.refl w8.heap.size w8).alloc (Nat.le_refl _) o)
    refine (same_yes A8 A _ _ c8 ca pa HPA.out HPA.out _ (HS8.out.bel (HB9a.out _)) (HSA.out.bel ((HB8.out).trans ((HB9a.out _).mono HB8.out.size))) (by omega) (by omega)).mono ?_
    rintro e w9 ⟨rfl, hb9⟩
    have hb9 := (HB9a.out _).trans (hb9.mono (HB9a.out _).size)
    have HB9 := Lib.hid (HB8.out.trans (hb9.mono HB8.out.size))
    have HD9 := Lib.hid (HD8.out.bel hb9)
    have HKA9 := Lib.hid (HKA8.out.bel hb9)
    have HKB9 := Lib.hid (HKB8.out.bel hb9)
    have HSa9 := Lib.hid (show ¬ S4 ga from HSa4.out)
    have HW2 : Hid (Calls Tryd.prog 6 #[.pointer (some ⟨p, 0, none⟩), .int .i64 1, .slice (some ⟨gb, 0, none⟩) 256 256] w9 fun e w' => e = .returned (.int .i64 0) ∧ ∃ S', Dsk w' S' p 2 ((D3 X).put 1 Y) ∧ Kp S4 S' w9 w') :=
      Lib.hid (write_ok HD9.out (DM.use_off rfl) 1 (some ⟨gb, 0, none⟩) 256 Y HY.out (Seg.of_block HKB9.out (fun i _ => by simp)) (fun a ha => by cases ha; exact HSb4.out) (by omega) (show (0 : Nat) < 64 by omega))
    clear hb9 HB9a
    go_wp2_with fail
    refine HW2.out.mono ?_
    rintro e w10 ⟨rfl, S5, hD10, hk10⟩
    have HKA10 := Lib.hid (hk10.bk HKA9.out HSa4.out)
    have HKB10 := Lib.hid (hk10.bk HKB9.out HSb4.out)
    have HSa5 := Lib.hid (hk10.far HKA9.out.lt HSa4.out)
    have HSb5 := Lib.hid (hk10.far HKB9.out.lt HSb4.out)
    have HB10 := Lib.hid (HB9.out.trans (hk10.below HSw4.out HB9.out.size))
    have HSw5 := Lib.hid (show ∀ i, S5 i → w.heap.size ≤ i from fun i hi => (hk10.news i hi).elim (HSw4.out i) (fun h => Nat.le_trans HB9.out.size h))
    have HC2 := Lib.hid (crash_any hD10 keep HKP.out tear sectors)
    clear hD10 hk10
    go_wp2_with fail
    refine HC2.out.mono ?_
    rintro e w11 ⟨rfl, hD11, hk11⟩
    have HKA11 := Lib.hid (hk11.bk HKA10.out HSa5.out)
    have HKB11 := Lib.hid (hk11.bk HKB10.out HSb5.out)
    have HB11 := Lib.hid (HB10.out.trans (hk11.below HSw5.out HB10.out.size))
    have HD11 := Lib.hid hD11
    obtain ⟨s, hsE⟩ : ∃ s, s = crashS keep tear sectors 0 := ⟨_, rfl⟩
    have HSS := Lib.hid (show s ≤ 8 by rw [hsE]; exact crashS_le keep tear sectors 0)
    have HSE := Lib.hid hsE
    have HR2 : Hid (Calls Tryd.prog 9 #[.pointer (some ⟨p, 0, none⟩), .int .i64 1] w11 fun e w' => ∃ A' c', e = .returned (.tuple #[.slice A' 256 c', .int .i64 0]) ∧ 256 ≤ c' ∧ w'.ownsRow w11.heap.size 5 1 (.slice A' 256 c') 256 (u8s (mixB X Y s)) ∧ Below w11.heap.size w11 w') := Lib.hid (by
      have := hD11.read_ok 1 (by omega)
      rw [d5_rd X Y HX.out HY.out, ← hsE] at this
      exact this)
    clear hD11 hk11 hsE
    go_wp2_with fail
    refine HR2.out.mono ?_
    rintro e w12 ⟨A12, c12, rfl, hc12, hown12, hb12⟩
    obtain ⟨g12, cap12, hv12, hge12, hgl12⟩ := hown12.form (by omega)
    injection hv12 with e1 e2 e3
    subst e1
    subst e3
    have HB12 := Lib.hid (HB11.out.trans (hb12.mono HB11.out.size))
    have HD12 := Lib.hid (HD11.out.bel hb12)
    have HKA12 := Lib.hid (HKA11.out.bel hb12)
    have HKB12 := Lib.hid (HKB11.out.bel hb12)
    have HZ12 := Lib.hid (show Seg w12 (some ⟨g12, 0, none⟩) (u8s (mixB X Y s)) from Seg.of_own hown12)
    have HCC := Lib.hid hc12
    clear hc12 hown12 hb12 hge12 hgl12
    go_wp2_with fail
    have HMX := Lib.hid (fun k => mixB_sector (X := X) (s := s) HY.out k)
    have HM := Lib.hid (mixB_length HX.out HY.out HSS.out)
    go_loopw [21] (fun i wr => ∃ k : Nat, k ≤ 8 ∧ i = .int .i64 ((k * 32 : Nat) : Int) ∧ Below w12.heap.size w12 wr) (fun i _ => 256 - (intOf i).toNat)
    case atStart => exact ⟨0, by omega, rfl, Below.refl _ _⟩
    case round =>
      obtain ⟨k, hk, rfl, hb⟩ := hrel
      obtain ⟨a, ha⟩ : ∃ a, a = k * 32 := ⟨_, rfl⟩
      rw [← ha]
      have HAK := Lib.hid ha
      have HK := Lib.hid hk
      clear ha hk
      by_cases hlt : a < 256
      · have H0 := Lib.hid hb
        have hS : Below w12.heap.size w12 wr ∧ True := ⟨hb, trivial⟩
        obtain ⟨q, hq⟩ : ∃ q, q = a + 32 := ⟨_, rfl⟩
        have HQ := Lib.hid hq
        have t2 : IntKind.i64.wrap ((a : Int) + 32) = (q : Int) := by rw [hq]; simp [IntKind.wrap, IntKind.bits, IntKind.signed]; omega
        have i1 : (0 : Int) ≤ (a : Int) := by omega
        have i2 : (a : Int) < 256 := by omega
        have i3 : (0 : Int) ≤ (q : Int) := by omega
        have i4 : (a : Int) ≤ (q : Int) := by omega
        have i5 : (q : Int) ≤ 256 := by have := HAK.out; omega
        have i6 : (q : Int) ≤ (c12 : Int) := by have := HCC.out; omega
        have i7 : ¬ c12 = a := by have := HCC.out; omega
        have i8 : ¬ 256 = a := by omega
        have L1 : q - a = (((mixB X Y s).drop a).take 32).length := by rw [List.length_take, List.length_drop, HM.out]; omega
        have L2 : q - a = ((X.drop a).take 32).length := by rw [List.length_take, List.length_drop, HX.out]; omega
        have L3 : q - a = ((Y.drop a).take 32).length := by rw [List.length_take, List.length_drop, HY.out]; omega
        have C1 := Lib.hid (fun W (h : Below w12.heap.size w12 W) => same_u8 (some ⟨g12, a, none⟩) (some ⟨ga, a, none⟩) (q - a) (q - a) (c12 - a) (256 - a) _ _ L1 L2 W (seg_from (HZ12.out.bel h) a 32) (seg_from (Seg.of_block (HKA12.out.bel h) (fun i _ => by simp)) a 32) (by omega) (by omega))
        have C2 := Lib.hid (fun W (h : Below w12.heap.size w12 W) => same_u8 (some ⟨g12, a, none⟩) (some ⟨gb, a, none⟩) (q - a) (q - a) (c12 - a) (256 - a) _ _ L1 L3 W (seg_from (HZ12.out.bel h) a 32) (seg_from (Seg.of_block (HKB12.out.bel h) (fun i _ => by simp)) a 32) (by omega) (by omega))
        have hk8 : k < 8 := by have := HAK.out; omega
        have hmx := HMX.out k hk8
        rw [← HAK.out] at hmx
        have e32 : (q : Int) = ((((k + 1) * 32 : Nat)) : Int) := by have := HAK.out; omega
        have HE32 := Lib.hid e32
        clear hb hq L1 L2 L3 e32
        by_cases he : ((mixB X Y s).drop a).take 32 = (X.drop a).take 32
        · rw [decide_eq_true he] at C1
          clear hmx he
          go_wp2_with fail
          refine wp_region_guarded [some 128, some 129, some 130, some 131, some 132, some 133, some 134, some 135, some 136, some 137, some 138, some 139, some 140, some 141, some 142, some 143, some 144, some 145, some 146, some 147, some 148, some 149, some 150, some 151, some 152, some 153] (fun _ => 0) (cF [.slice (some ⟨g12, 0, none⟩) 256 c12, .int .i64 (a : Int), .int .i64 (a : Int), .int .i64 (q : Int), .slice (some ⟨g12, a, none⟩) (q - a) (c12 - a), .slice (some ⟨ga, 0, none⟩) 256 256, .int .i64 (a : Int), .int .i64 (a : Int), .int .i64 (q : Int), .slice (some ⟨ga, a, none⟩) (q - a) (256 - a), .bool true, .bool false, .bool false, undef, undef, undef, undef, undef, undef, undef, undef, undef, undef, undef, undef, .bool false]) (fun w' => Below w12.heap.size w12 w') (by kernel_rfl) (H0.out.drew) rfl (by kernel_rfl) (by kernel_rfl) (by kernel_rfl) (fun T hT => ?_)
          simp only [List.filterMap_cons, List.filterMap_nil, id, putsS, Act.put, List.setIfInBounds_toArray, List.set_cons_zero, List.set_cons_succ] at hT
          subst hT
          refine ⟨⟨?_, ?_, ?_, ?_, ?_, ?_, ?_, ?_, ?_, ?_, ?_, ?_, ?_, ?_, ?_, ?_, ?_, ?_, ?_, ?_, ?_, ?_, ?_, ?_, ?_, ?_, trivial⟩, ?_⟩
          · -- 0: Op.move t18
            refine StepA.guarded rfl ?_
            intro f w1 hG hF K hK
            clear hF
            dsimp only at hK ⊢
            go_simp
            exact hK.out _ _ hG rfl (fun _ _ _ h => h)
          · -- 1: Op.move t21
            refine StepA.guarded rfl ?_
            intro f w1 hG hF K hK
            clear hF
            dsimp only at hK ⊢
            go_simp
            exact hK.out _ _ hG rfl (fun _ _ _ h => h)
          · -- 2: Op.move t21
            refine StepA.guarded rfl ?_
            intro f w1 hG hF K hK
            clear hF
            dsimp only at hK ⊢
            go_simp
            exact hK.out _ _ hG rfl (fun _ _ _ h => h)
          · -- 3: Op.binOp BinOp.add 3 t130 (const (32:i64)) 3
            refine StepA.guarded rfl ?_
            intro f w1 hG hF K hK
            have d2 : f 130 = .int .i64 (a : Int) := hF 2 (by kernel_rfl)
            clear hF
            dsimp only at hK ⊢
            generalize f 130 = v130 at *
            subst d2
            go_simp
            exact hK.out _ _ hG rfl (fun _ _ _ h => h)
          · -- 4: Op.slice 23 t128 (some t129) (some t131) none
            refine StepA.guarded rfl ?_
            intro f w1 hG hF K hK
            have d0 : f 128 = .slice (some ⟨g12, 0, none⟩) 256 c12 := hF 0 (by kernel_rfl)
            have d1 : f 129 = .int .i64 (a : Int) := hF 1 (by kernel_rfl)
            have d3 : f 131 = .int .i64 (q : Int) := hF 3 (by kernel_rfl)
            clear hF
            dsimp only at hK ⊢
            generalize f 128 = v128 at *
            generalize f 129 = v129 at *
            generalize f 131 = v131 at *
            subst d0
            subst d1
            subst d3
            go_simp
            exact hK.out _ _ hG rfl (fun _ _ _ h => h)
          · -- 5: Op.move t15
            refine StepA.guarded rfl ?_
            intro f w1 hG hF K hK
            clear hF
            dsimp only at hK ⊢
            go_simp
            exact hK.out _ _ hG rfl (fun _ _ _ h => h)
          · -- 6: Op.move t21
            refine StepA.guarded rfl ?_
            intro f w1 hG hF K hK
            clear hF
            dsimp only at hK ⊢
            go_simp
            exact hK.out _ _ hG rfl (fun _ _ _ h => h)
          · -- 7: Op.move t21
            refine StepA.guarded rfl ?_
            intro f w1 hG hF K hK
            clear hF
            dsimp only at hK ⊢
            go_simp
            exact hK.out _ _ hG rfl (fun _ _ _ h => h)
          · -- 8: Op.binOp BinOp.add 3 t135 (const (32:i64)) 3
            refine StepA.guarded rfl ?_
            intro f w1 hG hF K hK
            have d7 : f 135 = .int .i64 (a : Int) := hF 7 (by kernel_rfl)
            clear hF
            dsimp only at hK ⊢
            generalize f 135 = v135 at *
            subst d7
            go_simp
            exact hK.out _ _ hG rfl (fun _ _ _ h => h)
          · -- 9: Op.slice 23 t133 (some t134) (some t136) none
            refine StepA.guarded rfl ?_
            intro f w1 hG hF K hK
            have d5 : f 133 = .slice (some ⟨ga, 0, none⟩) 256 256 := hF 5 (by kernel_rfl)
            have d6 : f 134 = .int .i64 (a : Int) := hF 6 (by kernel_rfl)
            have d8 : f 136 = .int .i64 (q : Int) := hF 8 (by kernel_rfl)
            clear hF
            dsimp only at hK ⊢
            generalize f 133 = v133 at *
            generalize f 134 = v134 at *
            generalize f 136 = v136 at *
            subst d5
            subst d6
            subst d8
            go_simp
            exact hK.out _ _ hG rfl (fun _ _ _ h => h)
          · -- 10: Op.call ( value (Operand.func 11), args := #[t132, t137], ar
            refine StepA.guarded rfl ?_
            intro f w1 hG hF K hK
            have d4 : f 132 = .slice (some ⟨g12, a, none⟩) (q - a) (c12 - a) := hF 4 (by kernel_rfl)
            have d9 : f 137 = .slice (some ⟨ga, a, none⟩) (q - a) (256 - a) := hF 9 (by kernel_rfl)
            clear hF
            dsimp only at hK ⊢
            generalize f 132 = v132 at *
            generalize f 137 = v137 at *
            subst d4
            subst d9
            go_simp
            refine (C1.out _ hG).mono ?_
            rintro e w20 ⟨rfl, hb20⟩
            exact hK.out _ _ (hG.trans (hb20.mono hG.size)) rfl (fun _ _ _ h => h)
          · -- 11: Op.unOp UnOp.not 4 t138
            refine StepA.guarded rfl ?_
            intro f w1 hG hF K hK
            have d10 : f 138 = .bool true := hF 10 (by kernel_rfl)
            clear hF
            dsimp only at hK ⊢
            generalize f 138 = v138 at *
            subst d10
            go_simp
            exact hK.out _ _ hG rfl (fun _ _ _ h => h)
          · -- 12: Op.move t139
            refine StepA.guarded rfl ?_
            intro f w1 hG hF K hK
            have d11 : f 139 = .bool false := hF 11 (by kernel_rfl)
            clear hF
            dsimp only at hK ⊢
            generalize f 139 = v139 at *
            subst d11
            go_simp
            exact hK.out _ _ hG rfl (fun _ _ _ h => h)
          · -- 13: Op.move t18   
            intro f w1 hG hF K hK
            have d12 : f 140 = .bool false := hF 12 (by kernel_rfl)
            clear hF
            rw [if_neg (by rw [wanted_val (g := 12) (d := 140) (b := true) (c := false) rfl (by kernel_rfl) (show some (f 140) = some (.bool false) from congrArg some d12)]; decide)]
            dsimp only at hK ⊢
            generalize f 140 = v140 at *
            subst d12
            exact hK.out undef _ hG rfl (fun _ _ _ h => h)
          · -- 14: Op.move t21   
            intro f w1 hG hF K hK
            have d12 : f 140 = .bool false := hF 12 (by kernel_rfl)
            clear hF
            rw [if_neg (by rw [wanted_val (g := 12) (d := 140) (b := true) (c := false) rfl (by kernel_rfl) (show some (f 140) = some (.bool false) from congrArg some d12)]; decide)]
            dsimp only at hK ⊢
            generalize f 140 = v140 at *
            subst d12
            exact hK.out undef _ hG rfl (fun _ _ _ h => h)
          · -- 15: Op.move t21   
            intro f w1 hG hF K hK
            have d12 : f 140 = .bool false := hF 12 (by kernel_rfl)
            clear hF
            rw [if_neg (by rw [wanted_val (g := 12) (d := 140) (b := true) (c := false) rfl (by kernel_rfl) (show some (f 140) = some (.bool false) from congrArg some d12)]; decide)]
            dsimp only at hK ⊢
            generalize f 140 = v140 at *
            subst d12
            exact hK.out undef _ hG rfl (fun _ _ _ h => h)
          · -- 16: Op.binOp BinOp.add 3 t143 (const (32:i64)) 3   
            intro f w1 hG hF K hK
            have d12 : f 140 = .bool false := hF 12 (by kernel_rfl)
            clear hF
            rw [if_neg (by rw [wanted_val (g := 12) (d := 140) (b := true) (c := false) rfl (by kernel_rfl) (show some (f 140) = some (.bool false) from congrArg some d12)]; decide)]
            dsimp only at hK ⊢
            generalize f 140 = v140 at *
            subst d12
            exact hK.out undef _ hG rfl (fun _ _ _ h => h)
          · -- 17: Op.slice 23 t141 (some t142) (some t144) none   
            intro f w1 hG hF K hK
            have d12 : f 140 = .bool false := hF 12 (by kernel_rfl)
            clear hF
            rw [if_neg (by rw [wanted_val (g := 12) (d := 140) (b := true) (c := false) rfl (by kernel_rfl) (show some (f 140) = some (.bool false) from congrArg some d12)]; decide)]
            dsimp only at hK ⊢
            generalize f 140 = v140 at *
            subst d12
            exact hK.out undef _ hG rfl (fun _ _ _ h => h)
          · -- 18: Op.move t16   
            intro f w1 hG hF K hK
            have d12 : f 140 = .bool false := hF 12 (by kernel_rfl)
            clear hF
            rw [if_neg (by rw [wanted_val (g := 12) (d := 140) (b := true) (c := false) rfl (by kernel_rfl) (show some (f 140) = some (.bool false) from congrArg some d12)]; decide)]
            dsimp only at hK ⊢
            generalize f 140 = v140 at *
            subst d12
            exact hK.out undef _ hG rfl (fun _ _ _ h => h)
          · -- 19: Op.move t21   
            intro f w1 hG hF K hK
            have d12 : f 140 = .bool false := hF 12 (by kernel_rfl)
            clear hF
            rw [if_neg (by rw [wanted_val (g := 12) (d := 140) (b := true) (c := false) rfl (by kernel_rfl) (show some (f 140) = some (.bool false) from congrArg some d12)]; decide)]
            dsimp only at hK ⊢
            generalize f 140 = v140 at *
            subst d12
            exact hK.out undef _ hG rfl (fun _ _ _ h => h)
          · -- 20: Op.move t21   
            intro f w1 hG hF K hK
            have d12 : f 140 = .bool false := hF 12 (by kernel_rfl)
            clear hF
            rw [if_neg (by rw [wanted_val (g := 12) (d := 140) (b := true) (c := false) rfl (by kernel_rfl) (show some (f 140) = some (.bool false) from congrArg some d12)]; decide)]
            dsimp only at hK ⊢
            generalize f 140 = v140 at *
            subst d12
            exact hK.out undef _ hG rfl (fun _ _ _ h => h)
          · -- 21: Op.binOp BinOp.add 3 t148 (const (32:i64)) 3   
            intro f w1 hG hF K hK
            have d12 : f 140 = .bool false := hF 12 (by kernel_rfl)
            clear hF
            rw [if_neg (by rw [wanted_val (g := 12) (d := 140) (b := true) (c := false) rfl (by kernel_rfl) (show some (f 140) = some (.bool false) from congrArg some d12)]; decide)]
            dsimp only at hK ⊢
            generalize f 140 = v140 at *
            subst d12
            exact hK.out undef _ hG rfl (fun _ _ _ h => h)
          · -- 22: Op.slice 23 t146 (some t147) (some t149) none   
            intro f w1 hG hF K hK
            have d12 : f 140 = .bool false := hF 12 (by kernel_rfl)
            clear hF
            rw [if_neg (by rw [wanted_val (g := 12) (d := 140) (b := true) (c := false) rfl (by kernel_rfl) (show some (f 140) = some (.bool false) from congrArg some d12)]; decide)]
            dsimp only at hK ⊢
            generalize f 140 = v140 at *
            subst d12
            exact hK.out undef _ hG rfl (fun _ _ _ h => h)
          · -- 23: Op.call ( value (Operand.func 11), args := #[t145, t150], ar
            intro f w1 hG hF K hK
            have d12 : f 140 = .bool false := hF 12 (by kernel_rfl)
            clear hF
            rw [if_neg (by rw [wanted_val (g := 12) (d := 140) (b := true) (c := false) rfl (by kernel_rfl) (show some (f 140) = some (.bool false) from congrArg some d12)]; decide)]
            dsimp only at hK ⊢
            generalize f 140 = v140 at *
            subst d12
            exact hK.out undef _ hG rfl (fun _ _ _ h => h)
          · -- 24: Op.unOp UnOp.not 4 t151   
            intro f w1 hG hF K hK
            have d12 : f 140 = .bool false := hF 12 (by kernel_rfl)
            clear hF
            rw [if_neg (by rw [wanted_val (g := 12) (d := 140) (b := true) (c := false) rfl (by kernel_rfl) (show some (f 140) = some (.bool false) from congrArg some d12)]; decide)]
            dsimp only at hK ⊢
            generalize f 140 = v140 at *
            subst d12
            exact hK.out undef _ hG rfl (fun _ _ _ h => h)
          · -- 25: Op.pick t140 t152 (const (Value.bool false))
            refine StepA.guarded rfl ?_
            intro f w1 hG hF K hK
            have d12 : f 140 = .bool false := hF 12 (by kernel_rfl)
            have d24 : f 152 = undef := hF 24 (by kernel_rfl)
            clear hF
            dsimp only at hK ⊢
            generalize f 140 = v140 at *
            generalize f 152 = v152 at *
            subst d12
            subst d24
            go_simp
            exact hK.out _ _ hG rfl (fun _ _ _ h => h)
          · intro f w20 hG hF
            have e153 : f 153 = .bool false := hF 25 (by decide)
            have H1 := Lib.hid hG
            clear hF hG hS
            dsimp only
            generalize f 128 = v128
            generalize f 129 = v129
            generalize f 130 = v130
            generalize f 131 = v131
            generalize f 132 = v132
            generalize f 133 = v133
            generalize f 134 = v134
            generalize f 135 = v135
            generalize f 136 = v136
            generalize f 137 = v137
            generalize f 138 = v138
            generalize f 139 = v139
            generalize f 140 = v140
            generalize f 141 = v141
            generalize f 142 = v142
            generalize f 143 = v143
            generalize f 144 = v144
            generalize f 145 = v145
            generalize f 146 = v146
            generalize f 147 = v147
            generalize f 148 = v148
            generalize f 149 = v149
            generalize f 150 = v150
            generalize f 151 = v151
            generalize f 152 = v152
            generalize f 153 = v153 at *
            subst e153
            go_wp2_with fail
            go_roundw
            case rel => exact ⟨k + 1, by omega, by rw [HE32.out], H1.out⟩
            case measure => have := HAK.out; have := HQ.out; simp [intOf]; omega
        · have he2 : ((mixB X Y s).drop a).take 32 = (Y.drop a).take 32 := by
            split at hmx
            · exact hmx
            · exact absurd hmx he
          rw [decide_eq_false he] at C1
          rw [decide_eq_true he2] at C2
          clear hmx he he2
          go_wp2_with fail
          refine wp_region_guarded [some 128, some 129, some 130, some 131, some 132, some 133, some 134, some 135, some 136, some 137, some 138, some 139, some 140, some 141, some 142, some 143, some 144, some 145, some 146, some 147, some 148, some 149, some 150, some 151, some 152, some 153] (fun _ => 0) (cF [.slice (some ⟨g12, 0, none⟩) 256 c12, .int .i64 (a : Int), .int .i64 (a : Int), .int .i64 (q : Int), .slice (some ⟨g12, a, none⟩) (q - a) (c12 - a), .slice (some ⟨ga, 0, none⟩) 256 256, .int .i64 (a : Int), .int .i64 (a : Int), .int .i64 (q : Int), .slice (some ⟨ga, a, none⟩) (q - a) (256 - a), .bool false, .bool true, .bool true, .slice (some ⟨g12, 0, none⟩) 256 c12, .int .i64 (a : Int), .int .i64 (a : Int), .int .i64 (q : Int), .slice (some ⟨g12, a, none⟩) (q - a) (c12 - a), .slice (some ⟨gb, 0, none⟩) 256 256, .int .i64 (a : Int), .int .i64 (a : Int), .int .i64 (q : Int), .slice (some ⟨gb, a, none⟩) (q - a) (256 - a), .bool true, .bool false, .bool false]) (fun w' => Below w12.heap.size w12 w') (by kernel_rfl) (H0.out.drew) rfl (by kernel_rfl) (by kernel_rfl) (by kernel_rfl) (fun T hT => ?_)
          simp only [List.filterMap_cons, List.filterMap_nil, id, putsS, Act.put, List.setIfInBounds_toArray, List.set_cons_zero, List.set_cons_succ] at hT
          subst hT
          refine ⟨⟨?_, ?_, ?_, ?_, ?_, ?_, ?_, ?_, ?_, ?_, ?_, ?_, ?_, ?_, ?_, ?_, ?_, ?_, ?_, ?_, ?_, ?_, ?_, ?_, ?_, ?_, trivial⟩, ?_⟩
          · -- 0: Op.move t18
            refine StepA.guarded rfl ?_
            intro f w1 hG hF K hK
            clear hF
            dsimp only at hK ⊢
            go_simp
            exact hK.out _ _ hG rfl (fun _ _ _ h => h)
          · -- 1: Op.move t21
            refine StepA.guarded rfl ?_
            intro f w1 hG hF K hK
            clear hF
            dsimp only at hK ⊢
            go_simp
            exact hK.out _ _ hG rfl (fun _ _ _ h => h)
          · -- 2: Op.move t21
            refine StepA.guarded rfl ?_
            intro f w1 hG hF K hK
            clear hF
            dsimp only at hK ⊢
            go_simp
            exact hK.out _ _ hG rfl (fun _ _ _ h => h)
          · -- 3: Op.binOp BinOp.add 3 t130 (const (32:i64)) 3
            refine StepA.guarded rfl ?_
            intro f w1 hG hF K hK
            have d2 : f 130 = .int .i64 (a : Int) := hF 2 (by kernel_rfl)
            clear hF
            dsimp only at hK ⊢
            generalize f 130 = v130 at *
            subst d2
            go_simp
            exact hK.out _ _ hG rfl (fun _ _ _ h => h)
          · -- 4: Op.slice 23 t128 (some t129) (some t131) none
            refine StepA.guarded rfl ?_
            intro f w1 hG hF K hK
            have d0 : f 128 = .slice (some ⟨g12, 0, none⟩) 256 c12 := hF 0 (by kernel_rfl)
            have d1 : f 129 = .int .i64 (a : Int) := hF 1 (by kernel_rfl)
            have d3 : f 131 = .int .i64 (q : Int) := hF 3 (by kernel_rfl)
            clear hF
            dsimp only at hK ⊢
            generalize f 128 = v128 at *
            generalize f 129 = v129 at *
            generalize f 131 = v131 at *
            subst d0
            subst d1
            subst d3
            go_simp
            exact hK.out _ _ hG rfl (fun _ _ _ h => h)
          · -- 5: Op.move t15
            refine StepA.guarded rfl ?_
            intro f w1 hG hF K hK
            clear hF
            dsimp only at hK ⊢
            go_simp
            exact hK.out _ _ hG rfl (fun _ _ _ h => h)
          · -- 6: Op.move t21
            refine StepA.guarded rfl ?_
            intro f w1 hG hF K hK
            clear hF
            dsimp only at hK ⊢
            go_simp
            exact hK.out _ _ hG rfl (fun _ _ _ h => h)
          · -- 7: Op.move t21
            refine StepA.guarded rfl ?_
            intro f w1 hG hF K hK
            clear hF
            dsimp only at hK ⊢
            go_simp
            exact hK.out _ _ hG rfl (fun _ _ _ h => h)
          · -- 8: Op.binOp BinOp.add 3 t135 (const (32:i64)) 3
            refine StepA.guarded rfl ?_
            intro f w1 hG hF K hK
            have d7 : f 135 = .int .i64 (a : Int) := hF 7 (by kernel_rfl)
            clear hF
            dsimp only at hK ⊢
            generalize f 135 = v135 at *
            subst d7
            go_simp
            exact hK.out _ _ hG rfl (fun _ _ _ h => h)
          · -- 9: Op.slice 23 t133 (some t134) (some t136) none
            refine StepA.guarded rfl ?_
            intro f w1 hG hF K hK
            have d5 : f 133 = .slice (some ⟨ga, 0, none⟩) 256 256 := hF 5 (by kernel_rfl)
            have d6 : f 134 = .int .i64 (a : Int) := hF 6 (by kernel_rfl)
            have d8 : f 136 = .int .i64 (q : Int) := hF 8 (by kernel_rfl)
            clear hF
            dsimp only at hK ⊢
            generalize f 133 = v133 at *
            generalize f 134 = v134 at *
            generalize f 136 = v136 at *
            subst d5
            subst d6
            subst d8
            go_simp
            exact hK.out _ _ hG rfl (fun _ _ _ h => h)
          · -- 10: Op.call ( value (Operand.func 11), args := #[t132, t137], ar
            refine StepA.guarded rfl ?_
            intro f w1 hG hF K hK
            have d4 : f 132 = .slice (some ⟨g12, a, none⟩) (q - a) (c12 - a) := hF 4 (by kernel_rfl)
            have d9 : f 137 = .slice (some ⟨ga, a, none⟩) (q - a) (256 - a) := hF 9 (by kernel_rfl)
            clear hF
            dsimp only at hK ⊢
            generalize f 132 = v132 at *
            generalize f 137 = v137 at *
            subst d4
            subst d9
            go_simp
            refine (C1.out _ hG).mono ?_
            rintro e w20 ⟨rfl, hb20⟩
            exact hK.out _ _ (hG.trans (hb20.mono hG.size)) rfl (fun _ _ _ h => h)
          · -- 11: Op.unOp UnOp.not 4 t138
            refine StepA.guarded rfl ?_
            intro f w1 hG hF K hK
            have d10 : f 138 = .bool false := hF 10 (by kernel_rfl)
            clear hF
            dsimp only at hK ⊢
            generalize f 138 = v138 at *
            subst d10
            go_simp
            exact hK.out _ _ hG rfl (fun _ _ _ h => h)
          · -- 12: Op.move t139
            refine StepA.guarded rfl ?_
            intro f w1 hG hF K hK
            have d11 : f 139 = .bool true := hF 11 (by kernel_rfl)
            clear hF
            dsimp only at hK ⊢
            generalize f 139 = v139 at *
            subst d11
            go_simp
            exact hK.out _ _ hG rfl (fun _ _ _ h => h)
          · -- 13: Op.move t18   
            intro f w1 hG hF K hK
            have d12 : f 140 = .bool true := hF 12 (by kernel_rfl)
            clear hF
            rw [if_pos (by rw [wanted_val (g := 12) (d := 140) (b := true) (c := true) rfl (by kernel_rfl) (show some (f 140) = some (.bool true) from congrArg some d12)]; rfl)]
            dsimp only at hK ⊢
            generalize f 140 = v140 at *
            subst d12
            go_simp
            exact hK.out _ _ hG rfl (fun _ _ _ h => h)
          · -- 14: Op.move t21   
            intro f w1 hG hF K hK
            have d12 : f 140 = .bool true := hF 12 (by kernel_rfl)
            clear hF
            rw [if_pos (by rw [wanted_val (g := 12) (d := 140) (b := true) (c := true) rfl (by kernel_rfl) (show some (f 140) = some (.bool true) from congrArg some d12)]; rfl)]
            dsimp only at hK ⊢
            generalize f 140 = v140 at *
            subst d12
            go_simp
            exact hK.out _ _ hG rfl (fun _ _ _ h => h)
          · -- 15: Op.move t21   
            intro f w1 hG hF K hK
            have d12 : f 140 = .bool true := hF 12 (by kernel_rfl)
            clear hF
            rw [if_pos (by rw [wanted_val (g := 12) (d := 140) (b := true) (c := true) rfl (by kernel_rfl) (show some (f 140) = some (.bool true) from congrArg some d12)]; rfl)]
            dsimp only at hK ⊢
            generalize f 140 = v140 at *
            subst d12
            go_simp
            exact hK.out _ _ hG rfl (fun _ _ _ h => h)
          · -- 16: Op.binOp BinOp.add 3 t143 (const (32:i64)) 3   
            intro f w1 hG hF K hK
            have d12 : f 140 = .bool true := hF 12 (by kernel_rfl)
            have d15 : f 143 = .int .i64 (a : Int) := hF 15 (by kernel_rfl)
            clear hF
            rw [if_pos (by rw [wanted_val (g := 12) (d := 140) (b := true) (c := true) rfl (by kernel_rfl) (show some (f 140) = some (.bool true) from congrArg some d12)]; rfl)]
            dsimp only at hK ⊢
            generalize f 140 = v140 at *
            generalize f 143 = v143 at *
            subst d12
            subst d15
            go_simp
            exact hK.out _ _ hG rfl (fun _ _ _ h => h)
          · -- 17: Op.slice 23 t141 (some t142) (some t144) none   
            intro f w1 hG hF K hK
            have d12 : f 140 = .bool true := hF 12 (by kernel_rfl)
            have d13 : f 141 = .slice (some ⟨g12, 0, none⟩) 256 c12 := hF 13 (by kernel_rfl)
            have d14 : f 142 = .int .i64 (a : Int) := hF 14 (by kernel_rfl)
            have d16 : f 144 = .int .i64 (q : Int) := hF 16 (by kernel_rfl)
            clear hF
            rw [if_pos (by rw [wanted_val (g := 12) (d := 140) (b := true) (c := true) rfl (by kernel_rfl) (show some (f 140) = some (.bool true) from congrArg some d12)]; rfl)]
            dsimp only at hK ⊢
            generalize f 140 = v140 at *
            generalize f 141 = v141 at *
            generalize f 142 = v142 at *
            generalize f 144 = v144 at *
            subst d12
            subst d13
            subst d14
            subst d16
            go_simp
            exact hK.out _ _ hG rfl (fun _ _ _ h => h)
          · -- 18: Op.move t16   
            intro f w1 hG hF K hK
            have d12 : f 140 = .bool true := hF 12 (by kernel_rfl)
            clear hF
            rw [if_pos (by rw [wanted_val (g := 12) (d := 140) (b := true) (c := true) rfl (by kernel_rfl) (show some (f 140) = some (.bool true) from congrArg some d12)]; rfl)]
            dsimp only at hK ⊢
            generalize f 140 = v140 at *
            subst d12
            go_simp
            exact hK.out _ _ hG rfl (fun _ _ _ h => h)
          · -- 19: Op.move t21   
            intro f w1 hG hF K hK
            have d12 : f 140 = .bool true := hF 12 (by kernel_rfl)
            clear hF
            rw [if_pos (by rw [wanted_val (g := 12) (d := 140) (b := true) (c := true) rfl (by kernel_rfl) (show some (f 140) = some (.bool true) from congrArg some d12)]; rfl)]
            dsimp only at hK ⊢
            generalize f 140 = v140 at *
            subst d12
            go_simp
            exact hK.out _ _ hG rfl (fun _ _ _ h => h)
          · -- 20: Op.move t21   
            intro f w1 hG hF K hK
            have d12 : f 140 = .bool true := hF 12 (by kernel_rfl)
            clear hF
            rw [if_pos (by rw [wanted_val (g := 12) (d := 140) (b := true) (c := true) rfl (by kernel_rfl) (show some (f 140) = some (.bool true) from congrArg some d12)]; rfl)]
            dsimp only at hK ⊢
            generalize f 140 = v140 at *
            subst d12
            go_simp
            exact hK.out _ _ hG rfl (fun _ _ _ h => h)
          · -- 21: Op.binOp BinOp.add 3 t148 (const (32:i64)) 3   
            intro f w1 hG hF K hK
            have d12 : f 140 = .bool true := hF 12 (by kernel_rfl)
            have d20 : f 148 = .int .i64 (a : Int) := hF 20 (by kernel_rfl)
            clear hF
            rw [if_pos (by rw [wanted_val (g := 12) (d := 140) (b := true) (c := true) rfl (by kernel_rfl) (show some (f 140) = some (.bool true) from congrArg some d12)]; rfl)]
            dsimp only at hK ⊢
            generalize f 140 = v140 at *
            generalize f 148 = v148 at *
            subst d12
            subst d20
            go_simp
            exact hK.out _ _ hG rfl (fun _ _ _ h => h)
          · -- 22: Op.slice 23 t146 (some t147) (some t149) none   
            intro f w1 hG hF K hK
            have d12 : f 140 = .bool true := hF 12 (by kernel_rfl)
            have d18 : f 146 = .slice (some ⟨gb, 0, none⟩) 256 256 := hF 18 (by kernel_rfl)
            have d19 : f 147 = .int .i64 (a : Int) := hF 19 (by kernel_rfl)
            have d21 : f 149 = .int .i64 (q : Int) := hF 21 (by kernel_rfl)
            clear hF
            rw [if_pos (by rw [wanted_val (g := 12) (d := 140) (b := true) (c := true) rfl (by kernel_rfl) (show some (f 140) = some (.bool true) from congrArg some d12)]; rfl)]
            dsimp only at hK ⊢
            generalize f 140 = v140 at *
            generalize f 146 = v146 at *
            generalize f 147 = v147 at *
            generalize f 149 = v149 at *
            subst d12
            subst d18
            subst d19
            subst d21
            go_simp
            exact hK.out _ _ hG rfl (fun _ _ _ h => h)
          · -- 23: Op.call ( value (Operand.func 11), args := #[t145, t150], ar
            intro f w1 hG hF K hK
            have d12 : f 140 = .bool true := hF 12 (by kernel_rfl)
            have d17 : f 145 = .slice (some ⟨g12, a, none⟩) (q - a) (c12 - a) := hF 17 (by kernel_rfl)
            have d22 : f 150 = .slice (some ⟨gb, a, none⟩) (q - a) (256 - a) := hF 22 (by kernel_rfl)
            clear hF
            rw [if_pos (by rw [wanted_val (g := 12) (d := 140) (b := true) (c := true) rfl (by kernel_rfl) (show some (f 140) = some (.bool true) from congrArg some d12)]; rfl)]
            dsimp only at hK ⊢
            generalize f 140 = v140 at *
            generalize f 145 = v145 at *
            generalize f 150 = v150 at *
            subst d12
            subst d17
            subst d22
            go_simp
            refine (C2.out _ hG).mono ?_
            rintro e w20 ⟨rfl, hb20⟩
            exact hK.out _ _ (hG.trans (hb20.mono hG.size)) rfl (fun _ _ _ h => h)
          · -- 24: Op.unOp UnOp.not 4 t151   
            intro f w1 hG hF K hK
            have d12 : f 140 = .bool true := hF 12 (by kernel_rfl)
            have d23 : f 151 = .bool true := hF 23 (by kernel_rfl)
            clear hF
            rw [if_pos (by rw [wanted_val (g := 12) (d := 140) (b := true) (c := true) rfl (by kernel_rfl) (show some (f 140) = some (.bool true) from congrArg some d12)]; rfl)]
            dsimp only at hK ⊢
            generalize f 140 = v140 at *
            generalize f 151 = v151 at *
            subst d12
            subst d23
            go_simp
            exact hK.out _ _ hG rfl (fun _ _ _ h => h)
          · -- 25: Op.pick t140 t152 (const (Value.bool false))
            refine StepA.guarded rfl ?_
            intro f w1 hG hF K hK
            have d12 : f 140 = .bool true := hF 12 (by kernel_rfl)
            have d24 : f 152 = .bool false := hF 24 (by kernel_rfl)
            clear hF
            dsimp only at hK ⊢
            generalize f 140 = v140 at *
            generalize f 152 = v152 at *
            subst d12
            subst d24
            go_simp
            exact hK.out _ _ hG rfl (fun _ _ _ h => h)
          · intro f w20 hG hF
            have e153 : f 153 = .bool false := hF 25 (by decide)
            have H1 := Lib.hid hG
            clear hF hG hS
            dsimp only
            generalize f 128 = v128
            generalize f 129 = v129
            generalize f 130 = v130
            generalize f 131 = v131
            generalize f 132 = v132
            generalize f 133 = v133
            generalize f 134 = v134
            generalize f 135 = v135
            generalize f 136 = v136
            generalize f 137 = v137
            generalize f 138 = v138
            generalize f 139 = v139
            generalize f 140 = v140
            generalize f 141 = v141
            generalize f 142 = v142
            generalize f 143 = v143
            generalize f 144 = v144
            generalize f 145 = v145
            generalize f 146 = v146
            generalize f 147 = v147
            generalize f 148 = v148
            generalize f 149 = v149
            generalize f 150 = v150
            generalize f 151 = v151
            generalize f 152 = v152
            generalize f 153 = v153 at *
            subst e153
            go_wp2_with fail
            go_roundw
            case rel => exact ⟨k + 1, by omega, by rw [HE32.out], H1.out⟩
            case measure => have := HAK.out; have := HQ.out; simp [intOf]; omega
      · skip
        have HBr := Lib.hid hb
        have hdr := HD12.out.bel hb
        have IMG : Hid (Calls Tryd.prog 13 #[.pointer (some ⟨p, 0, none⟩)] wr fun e w' => ∃ A' c', e = .returned (.slice A' 512 c') ∧ 512 ≤ c' ∧ w'.ownsRow wr.heap.size 5 1 (.slice A' 512 c') 512 (u8s (((D3 X).put 1 Y).crash keep tear sectors).img) ∧ Below wr.heap.size wr w') := Lib.hid hdr.image
        have HLEN := Lib.hid (show 512 = (((D3 X).put 1 Y).crash keep tear sectors).img.length from hdr.ok.len.symm)
        clear hb hdr
        go_wp2_with fail
        refine IMG.out.mono ?_
        rintro e w13 ⟨A13, c13, rfl, hc13, hown13, hb13⟩
        have HB13 := Lib.hid (HBr.out.trans (hb13.mono HBr.out.size))
        have LD := Lib.hid (load_ok A13 512 c13 2 _ HLEN.out rfl (by omega) (by omega) w13 (Seg.of_own hown13))
        clear hc13 hown13 hb13
        go_wp2_with fail
        refine LD.out.mono ?_
        rintro e w14 ⟨p2, S2, rfl, hD14, _, hb14⟩
        have HB14 := Lib.hid (HB13.out.trans (hb14.mono HB13.out.size))
        have RD : Hid (Calls Tryd.prog 9 #[.pointer (some ⟨p2, 0, none⟩), .int .i64 1] w14 fun e w' => ∃ A' c', e = .returned (.tuple #[.slice A' 256 c', .int .i64 0]) ∧ 256 ≤ c' ∧ w'.ownsRow w14.heap.size 5 1 (.slice A' 256 c') 256 (u8s (mixB X Y s)) ∧ Below w14.heap.size w14 w') := Lib.hid (by
          have := hD14.read_ok 1 (by omega)
          rw [show (DM.made (((D3 X).put 1 Y).crash keep tear sectors).img).rd 1 = mixB X Y s from (d5_rd X Y HX.out HY.out keep tear sectors).trans (by rw [HSE.out])] at this
          exact this)
        clear hD14 hb14
        go_wp2_with fail
        refine RD.out.mono ?_
        rintro e w15 ⟨A15, c15, rfl, hc15, hown15, hb15⟩
        have HB15 := Lib.hid (HB14.out.trans (hb15.mono HB14.out.size))
        have SM := Lib.hid (same_yes A15 (some ⟨g12, 0, none⟩) 256 256 c15 c12 (mixB X Y s) HM.out.symm HM.out.symm w15 (Seg.of_own hown15) (HZ12.out.bel HB15.out) (by omega) (by omega))
        clear hc15 hown15 hb15
        by_cases hbit : keep.testBit 0 = true
        · have hs8 : s = 8 := by rw [HSE.out]; unfold crashS; rw [if_pos hbit]
          have hmy : mixB X Y s = Y := by
            rw [hs8]
            unfold mixB
            rw [List.take_of_length_le (by rw [HY.out]; omega), List.drop_eq_nil_of_le (by rw [HX.out]; omega), List.append_nil]
          have HMY := Lib.hid hmy
          have hodd : keep % 2 = 1 := by rw [Nat.testBit_zero] at hbit; simpa using hbit
          have hand : bits BinOp.and IntKind.u64 (keep : Int) 1 = 1 := by
            rw [and_one_u64 _ (by omega) (by have := HKP.out; omega)]
            omega
          clear hbit hs8 hmy
          go_wp2_with fail
          refine SM.out.mono ?_
          rintro e w16 ⟨rfl, hb16⟩
          have HB16 := Lib.hid (HB15.out.trans (hb16.mono HB15.out.size))
          have SN := Lib.hid (same_yes (some ⟨g12, 0, none⟩) (some ⟨gb, 0, none⟩) 256 256 c12 256 Y HY.out.symm HY.out.symm w16 (by rw [← HMY.out]; exact HZ12.out.bel HB16.out) (Seg.of_block (HKB12.out.bel HB16.out) (fun i _ => by simp)) (by omega) (by omega))
          clear hb16
          go_wp2_with fail
          refine SN.out.mono ?_
          rintro e w17 ⟨rfl, hb17⟩
          have HB17 := Lib.hid (HB12.out.trans ((HB16.out.trans (hb17.mono HB16.out.size)).mono HB12.out.size))
          clear hb17
          go_wp2_with fail
          go_ret
          exact ⟨rfl, HB17.out⟩
        · have heven : keep % 2 = 0 := by rw [Nat.testBit_zero] at hbit; simp at hbit; omega
          have hand : bits BinOp.and IntKind.u64 (keep : Int) 1 = 0 := by
            rw [and_one_u64 _ (by omega) (by have := HKP.out; omega)]
            omega
          clear hbit
          go_wp2_with fail
          refine SM.out.mono ?_
          rintro e w16 ⟨rfl, hb16⟩
          have HB17 := Lib.hid (HB12.out.trans ((HB15.out.trans (hb16.mono HB15.out.size)).mono HB12.out.size))
          clear hb16
          go_wp2_with fail
          go_ret
          exact ⟨rfl, HB17.out⟩
end
end Go.Proofs.YtockmpnclajjmaaDoor
