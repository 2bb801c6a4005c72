/- The walk of the statement on the cyclic sum. Conditions: the bytes lie in memory; the table of the cyclic sum is laid. -/
import Derived.Test.YtfoajcphlanleaaDoorAwake
import Derived.Test.YtfoajcphlanleaaDoorSame
import Derived.Test.YtfoajcphlanleaaDoorRows
import Derived.Lib.LaidTab
import Derived.LaidHandle
namespace Go.Proofs.YtfoajcphlanleaaDoor
open Go.RowKit

theorem tab_of_laid (W : World) (h : laidMetH Tryd.prog [("parley/digest.crcSteps", Rows.laid_parley_digest_crcSteps)] W) : Tab W := by
  have h' : laidMet Tryd.prog [("parley/digest.crcSteps", Lib.tabData .u32 [0, 498536548, 997073096, 651767980, 1994146192, 1802195444, 1303535960, 1342533948, 3988292384, 4027552580, 3604390888, 3412177804, 2607071920, 2262029012, 2685067896, 3183342108])] W := h
  have ht := Lib.tabIs_of_head (g := 0) (t := 37) (e := 24) (n := 16) (by kernel_rfl) (by kernel_rfl) Tryd.underlying37 Tryd.underlying24 (by kernel_rfl) (by kernel_rfl) h'
  have hc := fun i hi => ht.cell (g := 0) (by kernel_rfl) i hi
  refine ⟨?_, fun i hi => ?_⟩
  · have := hc 0 (by decide)
    rcases Nat.eq_zero_or_pos W.heap.size with h0 | h0
    · rw [World.cell?, Array.getElem?_eq_none (by omega)] at this
      cases this
    · exact h0
  · rw [hc i (by simpa using hi)]
    have hall : ∀ i, i < 16 → (([0, 498536548, 997073096, 651767980, 1994146192, 1802195444, 1303535960, 1342533948, 3988292384, 4027552580, 3604390888, 3412177804, 2607071920, 2262029012, 2685067896, 3183342108] : List Int).getD i 0) = (tab i : Int) := by decide +kernel
    rw [hall i hi]

theorem same_u8 (A B : Option Addr) (n m c d : Nat) (x y : List Nat) (hn : n = x.length) (hm : m = y.length) (w : World) (hA : Seg w A (u8s x)) (hB : Seg w B (u8s y)) (hx : n ≤ 1000000000) (hy : m ≤ 1000000000) :
    Calls Tryd.prog 12 #[.slice A n c, .slice B m d] w fun e w' => e = .returned (.bool (decide (x = y))) ∧ Below w.heap.size w w' := by
  subst hn
  subst hm
  have e1 : ∀ l : List Nat, u8s l = (l.map fun (x : Nat) => (x : Int)).map (Value.int .u8) := fun l => by simp [u8s]
  rw [e1] at hA hB
  have := same_any A B c d (x.map fun (x : Nat) => (x : Int)) (y.map fun (x : Nat) => (x : Int)) w hA hB (by simpa using hx) (by simpa using hy)
  simp only [List.length_map] at this
  refine this.mono ?_
  rintro e w' ⟨rfl, hb⟩
  refine ⟨?_, hb⟩
  have hinj : (x.map fun (x : Nat) => (x : Int)) = (y.map fun (x : Nat) => (x : Int)) ↔ x = y := by
    constructor
    · intro h
      exact (List.map_inj_right (fun a b h => Int.ofNat.inj h)).1 h
    · intro h; rw [h]
  simp only [hinj]

theorem u8s_of {w : World} {A : Option Addr} {l : List Nat} (h : Seg w A ((l.map fun (x : Nat) => (x : Int)).map (Value.int .u8))) : Seg w A (u8s l) := by
  have e : (l.map fun (x : Nat) => (x : Int)).map (Value.int .u8) = u8s l := by simp [u8s]
  rw [← e]; exact h
theorem take_lt {l : List Nat} (hl : ∀ x ∈ l, x < 256) (N : Nat) : ∀ x ∈ l.take N, x < 256 := fun x hx => hl x (List.mem_of_mem_take hx)

set_option maxRecDepth 100000 in
theorem crcs_any (A : Option Addr) (n c : Nat) (l : List Nat) (hn : n = l.length) (hnc : n ≤ c) (w : World) (hA : Seg w A (u8s l)) (hl : ∀ x ∈ l, x < 256) (hT : Tab w) :
    Calls Tryd.prog 3 #[.slice A n c] w fun e w' => e = .returned (.bool true) ∧ Below w.heap.size w w' := by
  have HA := Lib.hid hA
  have HL := Lib.hid (take_lt hl 2000)
  have HN := Lib.hid hn
  have HT := Lib.hid hT
  have F0 := Lib.hid (few_any A n c 2000 l hn hnc (by omega) w hA)
  have F1 := Lib.hid (fun w (h : Seg w A (u8s l)) => few_any A n c 2000 l hn hnc (by omega) w h)
  have hx : (l.take 2000).length ≤ 2000 := by rw [List.length_take]; omega
  clear hA hl hn hT
  generalize l.take 2000 = L at *
  go_enter Tryd.func3, Tryd.ntmps3
  go_wp2_with fail
  refine F0.out.mono ?_; rintro e w1 ⟨rfl, k1, b1⟩
  have S1 := Lib.hid (seg_pad k1)
  have B1 := Lib.hid b1
  clear k1 b1
  go_wp2_with fail
  refine (crc_any _ _ _ L rfl _ S1.out (HT.out.below B1.out) HL.out (by omega)).mono ?_; rintro e w' ⟨rfl, rfl⟩
  rw [crc_eq L HL.out]
  go_wp2_with fail
  refine (awake_any _ (HT.out.below B1.out)).mono ?_; rintro e w2 ⟨rfl, b2⟩
  have S2 := Lib.hid (S1.out.bel b2)
  have B2 := Lib.hid (below_step B1.out b2)
  clear b2
  go_wp2_with fail
  refine (refcrc_any _ _ _ L rfl _ S2.out HL.out (by omega)).mono ?_; rintro e w' ⟨rfl, rfl⟩
  go_wp2_with fail
  refine (F1.out _ (HA.out.bel B2.out)).mono ?_; rintro e w3 ⟨rfl, k3, b3⟩
  have S3 := Lib.hid (seg_pad k3)
  have S4 := Lib.hid (S2.out.bel b3)
  have B3 := Lib.hid (below_step B2.out b3)
  clear k3 b3
  go_wp2_with fail
  refine (same_u8 _ _ _ _ _ _ L L rfl rfl _ S4.out S3.out (by omega) (by omega)).mono ?_; rintro e w4 ⟨rfl, b4⟩
  have B4 := Lib.hid (below_step B3.out b4)
  clear b4
  have hd : decide (L = L) = true := by simp
  rw [hd]
  go_wp2
  go_ret
  exact ⟨rfl, B4.out⟩
end Go.Proofs.YtfoajcphlanleaaDoor
