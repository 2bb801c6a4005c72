/- strings.Clone answers the text itself. No condition but a length that every Go text keeps. -/
import Derived.Test.YthjbkgappjpanaaDoorLaws
import Derived.Test.YthjbkgappjpanaaDoorProg
import Derived.Shelf.Pu.Clone
namespace Go.Proofs.YthjbkgappjpanaaDoor
open Go.RowKit Go.Shelf

/-- The shelf's numbers and this program's. -/
def cloneRen : Ren where
  f := fun _ => 23
  t := fun n => if n = 0 then 0 else if n = 3 then 3 else if n = 4 then 4 else if n = 5 then 5 else if n = 9 then 9 else if n = 37 then 55 else if n = 47 then 65 else 0
  g := fun n => n
theorem cloneLays : LaysPu.n25 Tryd.prog cloneRen := by
  constructor <;> first | kernel_rfl | (intro w; kernel_rfl)
theorem slclone_any (s : ByteArray) (w : World) (h : s.size ≤ 281474976710656) :
    Calls Tryd.prog 23 #[.string s] w fun e w' => e = .returned (.string s) ∧ Below w.heap.size w w' :=
  AnyPu.stringslite_Clone cloneLays s w h
theorem sclone_any (s : ByteArray) (w : World) (h : s.size ≤ 281474976710656) :
    Calls Tryd.prog 19 #[.string s] w fun e w' => e = .returned (.string s) ∧ Below w.heap.size w w' := by
  go_enter Tryd.func19, Tryd.ntmps19
  go_wp2_with fail
  refine (slclone_any s w h).mono ?_; rintro e w1 ⟨rfl, b1⟩
  go_wp2_with fail
  go_ret
  exact ⟨rfl, b1⟩
end Go.Proofs.YthjbkgappjpanaaDoor
