/- A workspace of one user and one channel: who the user is, and that they are a member. Condition: the workspace lies in memory. -/
import Derived.Test.YtbpclifgafafdaaDoorProg
import Derived.Test.YtbpclifgafafdaaDoorLaws
import Derived.WalkKit
import Derived.WalkMore
import Derived.Below
import Derived.BigQuiet
import Derived.Shelf.Slices.Turned
import Derived.Lib.Hide
import Derived.Lib.SliceRun
namespace Go.Proofs.YtbpclifgafafdaaDoor
open Go.RowKit Go.Shelf

def spRen : Ren where
  f := fun n => if n = 107 then 34 else if n = 108 then 42 else if n = 109 then 33 else n
  t := fun n => if n = 0 then 0 else if n = 3 then 3 else if n = 4 then 4 else if n = 9 then 9 else if n = 28 then 24 else if n = 31 then 23 else n
  g := fun n => n
theorem lays107 : Lays.n107 Tryd.prog spRen := by
  constructor <;> first | kernel_rfl | (intro w; kernel_rfl)
theorem lays109 : Lays.n109 Tryd.prog spRen := by
  constructor <;> first | kernel_rfl | (intro w; kernel_rfl)
def annZ : ByteArray := { data := #[97, 110, 110] }
/-- The workspace as a value. -/
def spV (gu gc : Nat) : Value := .agg #[.slice (some ⟨gu, 0, none⟩) 1 1, .slice (some ⟨gc, 0, none⟩) 1 1, .slice none 0 0, .slice none 0 0, .slice none 0 0, .slice none 0 0, .int .i64 0]
/-- Its blocks in memory. -/
structure Sp (w : World) (gu gc gm : Nat) : Prop where
  us : w.cell? ⟨gu, 0, none⟩ = some (.string annZ)
  ms : w.cell? ⟨gc, 2, none⟩ = some (.slice (some ⟨gm, 0, none⟩) 1 1)
  me : w.cell? ⟨gm, 0, none⟩ = some (.int .i64 0)
theorem index_ann (gu : Nat) (w : World) (hu : w.cell? ⟨gu, 0, none⟩ = some (.string annZ)) :
    Calls Tryd.prog 33 #[.slice (some ⟨gu, 0, none⟩) 1 1, .string annZ] w fun e w' => e = .returned (.int .i64 0) ∧ w' = w :=
  (Any.slices_Index_string lays109 gu 0 1 1 [annZ] annZ w (by decide) (by decide) (fun j hj => by
    obtain rfl : j = 0 := by simp at hj; omega
    exact hu)).mono fun e w' ⟨h1, h2⟩ => ⟨by rw [h1, show Lib.idxOfS (List.take 1 [annZ]) annZ = 0 by decide +kernel], h2⟩
theorem contains_zero (gm : Nat) (w : World) (hm : w.cell? ⟨gm, 0, none⟩ = some (.int .i64 0)) :
    Calls Tryd.prog 34 #[.slice (some ⟨gm, 0, none⟩) 1 1, .int .i64 0] w fun e w' => e = .returned (.bool true) ∧ w' = w :=
  (Any.slices_Contains_int lays107 gm 0 1 1 [0] 0 w (by decide) (by decide) (fun j hj => by
    obtain rfl : j = 0 := by simp at hj; omega
    exact hm)).mono fun e w' ⟨h1, h2⟩ => ⟨by rw [h1]; simp, h2⟩
set_option maxRecDepth 100000 in
set_option maxHeartbeats 1000000 in
theorem user_any (gu gc gm : Nat) (w : World) (hS : Sp w gu gc gm) :
    Calls Tryd.prog 22 #[spV gu gc, .string annZ] w fun e w' => e = .returned (.int .i64 0) ∧ Below w.heap.size w w' := by
  have hu := Lib.hid hS.us
  have hrefl := Lib.hid (Below.refl w.heap.size w)
  clear hS
  unfold spV
  go_enter Tryd.func22, Tryd.ntmps22
  go_wp2_with (go_at_call 33; refine (index_ann gu _ (Lib.cell?_alloc_some _ hu.out)).mono ?_; rintro e w' ⟨rfl, rfl⟩)
  go_ret
  exact ⟨rfl, hrefl.out.alloc (Nat.le_refl _) _⟩
set_option maxRecDepth 100000 in
set_option maxHeartbeats 1000000 in
theorem member_any (gu gc gm : Nat) (w : World) (hS : Sp w gu gc gm) :
    Calls Tryd.prog 24 #[spV gu gc, .int .i64 0, .int .i64 0] w fun e w' => e = .returned (.bool true) ∧ Below w.heap.size w w' := by
  have hu : ∀ o, (w.alloc o).cell? ⟨gc, 2, none⟩ = some (.slice (some ⟨gm, 0, none⟩) 1 1) := fun o => Lib.cell?_alloc_some o hS.ms
  have hm := Lib.hid hS.me
  have hrefl := Lib.hid (Below.refl w.heap.size w)
  clear hS
  unfold spV
  go_enter Tryd.func24, Tryd.ntmps24
  go_wp2_with (go_at_call 34; refine (contains_zero gm _ (Lib.cell?_alloc_some _ hm.out)).mono ?_; rintro e w' ⟨rfl, rfl⟩)
  go_ret
  exact ⟨rfl, hrefl.out.alloc (Nat.le_refl _) _⟩
end Go.Proofs.YtbpclifgafafdaaDoor
