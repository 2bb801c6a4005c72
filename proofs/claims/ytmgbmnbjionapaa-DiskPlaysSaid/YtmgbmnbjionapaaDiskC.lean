/- A write lands on a disk. Conditions: the disk lies in memory; the block is on it. -/
import Derived.Test.YtmgbmnbjionapaaDiskB
import Derived.BigQuiet
import Derived.Deep.QuietTactic
namespace Go.Proofs.Ytmgbmnbjionapaa
open Go.RowKit

/-- Bytes put into a row from place k on. -/
def putB (img : List Nat) (k : Nat) (news : List Nat) : List Nat := img.take k ++ (news ++ img.drop (k + news.length))
theorem putB_length (img : List Nat) (k : Nat) (news : List Nat) (h : k + news.length ≤ img.length) : (putB img k news).length = img.length := by
  simp only [putB, List.length_append, List.length_take, List.length_drop]
  omega
theorem u8s_putB (img : List Nat) (k : Nat) (news : List Nat) : u8s (putB img k news) = (u8s img).take k ++ (u8s news ++ (u8s img).drop (k + (u8s news).length)) := by
  simp [putB, u8s, List.map_take, List.map_drop]
theorem only_setRow (w : World) (g : Nat) (new : Array Value) : w.grownBy (w.setRow g new) (some g) :=
  ⟨rfl, rfl, rfl, by simp [World.setRow], fun i _ hne => by
    have : ¬ g = i := fun e => hne (by rw [e])
    simp [World.setRow, Array.getElem?_modify, this]⟩
section
variable {w w' : World} {B g gi : Nat} {img : List Nat} {v : Value} {wts : List (Nat × List Nat)} {arm : Bool} {left : Int}
theorem Dk.reimg {img' : List Nat} (h : Dk w B g gi img v wts arm left) (hl : img'.length = img.length) (hg : w.grownBy w' (some gi)) (hb : Bk w' gi 5 (u8s img').toArray) : Dk w' B g gi img' v wts arm left :=
  ⟨by rw [hl]; exact only_bk hg h.box h.ne, hb, h.own.kept hg (.inr h.far'), h.ne, h.lo, h.lo', h.far, h.far', h.full⟩
/-- A change as a value. -/
def chV (n : Nat) (l : List Nat) : Value := .agg (Value.int .i64 (n : Int) :: u8s l).toArray
set_option maxRecDepth 100000 in
set_option maxHeartbeats 1000000 in
theorem land_any (h : Dk w B g gi img v wts arm left) (T : Nat) (hT : img.length = T * 256) (h2 : T ≤ 2048) (n : Nat) (hn : n < T) (l : List Nat) (hl : l.length = 256) (s : Nat) (hs : s ≤ 8) :
    Calls Try.prog 53 #[.pointer (some ⟨g, 0, none⟩), chV n l, .int .i64 (s : Int)] w fun e w' => e = .returned (.tuple #[]) ∧ Dk w' B g gi (putB img (n * 256) (l.take (s * 32))) v wts arm left ∧ w.grownBy w' (some gi) := by
  have X := Bk.new w 95 (Value.int .i64 (n : Int) :: u8s l).toArray
  have D := Lib.hid (show Dk (w.alloc (.cells (Value.int .i64 (n : Int) :: u8s l).toArray 95)) B g gi img v wts arm left from
    ⟨h.box.alloc _, h.img.alloc _, h.own.alloc _, h.ne, h.lo, h.lo', h.far, h.far', h.full⟩)
  have hG := only_alloc (only_refl w (some gi)) (.cells (Value.int .i64 (n : Int) :: u8s l).toArray 95)
  have c0 := D.out.c0
  rw [hT] at c0
  have x0 : (w.alloc (.cells (Value.int .i64 (n : Int) :: u8s l).toArray 95)).cell? ⟨w.heap.size, 0, none⟩ = some (.int .i64 (n : Int)) := X.cell 0
  have HX := Lib.hid X
  have HG := Lib.hid hG
  have HT := Lib.hid hT
  have HL := Lib.hid hl
  obtain ⟨a, ha⟩ : ∃ a, a = n * 256 := ⟨_, rfl⟩
  obtain ⟨b, hb⟩ : ∃ b, b = T * 256 := ⟨_, rfl⟩
  obtain ⟨c, hc⟩ : ∃ c, c = s * 32 := ⟨_, rfl⟩
  have t1 : IntKind.i64.wrap ((n : Int) * 256) = (a : Int) := by rw [IntWalk.i64_in _ (by omega)]; omega
  have t2 : IntKind.i64.wrap ((s : Int) * 32) = (c : Int) := by rw [IntWalk.i64_in _ (by omega)]; omega
  have i1 : a < b := by omega
  have i1' : a ≤ b := by omega
  have i2 : c ≤ 256 := by omega
  have i7 : c ≤ b - a := by omega
  have i8 : ¬ b = a := by omega
  have i3 : (a : Int) ≤ (b : Int) := by omega
  have i4 : (c : Int) ≤ 256 := by omega
  have i5 : (0 : Int) ≤ (a : Int) := by omega
  have i6 : (0 : Int) ≤ (c : Int) := by omega
  rw [← hb] at c0
  rw [← ha, ← hc]
  have HAa := Lib.hid ha
  have HBb := Lib.hid hb
  have HCc := Lib.hid hc
  clear h X hG hT hl ha hb hc
  unfold chV
  go_enter Try.func53, Try.ntmps53
  go_wp2_with fail
  generalize w.alloc (.cells (Value.int .i64 (n : Int) :: u8s l).toArray 95) = w1 at *
  go_still_tail 12, (by kernel_rfl)
  change wpList _ _ _ _ _ w1.drew
  have hcl : (l.take c).length = c := by rw [List.length_take, HL.out]; omega
  have HSrc := Lib.hid (show ∀ j u, (u8s (l.take c))[j]? = some u → w1.drew.cell? ((⟨w.heap.size, 1, none⟩ : Addr).add j) = some u from fun j u hj => by
    have hj' : j < c := by
      have := (List.getElem?_eq_some_iff.1 hj).1
      rw [u8s_length, hcl] at this
      exact this
    rw [show ((⟨w.heap.size, 1, none⟩ : Addr).add j) = ⟨w.heap.size, 1 + j, none⟩ by unfold Addr.add; split <;> simp_all]
    rw [HX.out.drew.cell (1 + j), show 1 + j = j + 1 by omega, ← hj]
    simp [u8s, hj'])
  have HCl := Lib.hid hcl
  have hsz : (Try.prog.info? 5).map (·.size) = some 1 := by kernel_rfl
  have HD := Lib.hid (show Dk w1.drew B g gi img v wts arm left from ⟨D.out.box.drew, D.out.img.drew, D.out.own.drew, D.out.ne, D.out.lo, D.out.lo', D.out.far, D.out.far', D.out.full⟩)
  have HG2 := Lib.hid (only_drew HG.out)
  clear hcl
  generalize w1.drew = w2 at *
  refine wpList_copy_own rfl _ _ _ _ rfl 5 Try.underlying26 hsz gi a (b - a) (b - a) ⟨w.heap.size, 1, none⟩ c 256 rfl rfl (u8s img).toArray 5 HD.out.img (u8s (l.take c)) (by rw [u8s_length, HCl.out]; exact (Nat.min_eq_left i7).symm) HSrc.out (by rw [u8s_length, HCl.out]; simp [u8s_length]; have := HT.out; have := HAa.out; have := HBb.out; omega) (u8s_one _) ?_
  go_wp2_with fail
  refine bodyPost_end (v := .tuple #[]) ?_ rfl ?_
  · simp [results, Try.results53, go_sem]
  · have hrow := HD.out.img.row ((u8s img).take a ++ (u8s (l.take c) ++ (u8s img).drop (a + (u8s (l.take c)).length))).toArray
    rw [← u8s_putB] at hrow
    have hg : w2.grownBy (w2.setRow gi (u8s (putB img a (l.take c))).toArray) (some gi) := only_setRow _ _ _
    refine ⟨rfl, ?_, ?_⟩
    · rw [← u8s_putB]
      exact HD.out.reimg (putB_length _ _ _ (by rw [HCl.out]; have := HT.out; have := HAa.out; omega)) hg hrow
    · rw [← u8s_putB]
      exact only_then HG2.out hg
end
end Go.Proofs.Ytmgbmnbjionapaa
