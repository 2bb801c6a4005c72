/- The library's functions of utf8 and strings.Clone at this program. No condition but those that each says. -/
import Derived.Test.YtahpiminhlineaaDoorProg
import Derived.WalkKit
import Derived.WalkMore
import Derived.Below
import Derived.Shelf.Small.Utf8
import Derived.Shelf.Utf8.AppendRunePlain
import Derived.Shelf.LaysM
import Derived.Shelf.Strconv.Clone
import Derived.Shelf.Unicode.ValidAny
import Derived.Lib.LaidU8T
namespace Go.Proofs.YtahpiminhlineaaDoor
open Go.RowKit Go.Shelf

/-- The shelf's numbers and this program's: functions, types, variables. -/
def uRen : Ren where
  f := fun n => if n = 119 then 29 else if n = 120 then 43 else if n = 278 then 44 else if n = 242 then 30 else if n = 316 then 48 else if n = 196 then 35 else if n = 259 then 46 else n
  t := fun n => if n = 37 then 42 else if n = 21 then 21 else if n = 51 then 55 else if n = 4 then 4 else if n = 46 then 65 else if n = 5 then 5 else if n = 9 then 9 else if n = 3 then 3 else if n = 0 then 0 else if n = 127 then 67 else if n = 12 then 12 else if n = 119 then 61 else if n = 139 then 64 else if n = 138 then 63 else if n = 53 then 66 else n
  g := fun n => if n = 3 then 0 else if n = 4 then 1 else n
theorem lays119 : Lays.n119 Tryd.prog uRen := by
  constructor <;> first | kernel_rfl | (intro w; kernel_rfl)
theorem lays120 : Lays.n120 Tryd.prog uRen := by
  constructor <;> first | kernel_rfl | (intro w; kernel_rfl)
theorem lays278 : Lays.n278 Tryd.prog uRen := by
  constructor <;> first | kernel_rfl | (intro w; kernel_rfl)
theorem lays242 : Lays.n242 Tryd.prog uRen := by
  constructor <;> first | kernel_rfl | (intro w; kernel_rfl)
theorem lays316a : Lays.n316 Tryd.prog uRen := by
  constructor <;> first | kernel_rfl | (intro w; kernel_rfl)
theorem lays316 : LaysM.n316 Tryd.prog uRen := by
  constructor <;> first | exact lays316a | kernel_rfl | (intro w; kernel_rfl)
theorem lays196 : Lays.n196 Tryd.prog uRen := by
  constructor <;> first | kernel_rfl | (intro w; kernel_rfl)
theorem vrune_any (r : Int) (w : World) : Calls Tryd.prog 29 #[.int .i32 r] w fun e w' => e = .returned (.bool (Lib.validRune r)) ∧ w' = w := Any.utf8_ValidRune lays119 r w
theorem rstart_any (b : Int) (w : World) (h0 : 0 ≤ b) (h1 : b < 256) : Calls Tryd.prog 43 #[.int .u8 b] w fun e w' => e = .returned (.bool (Lib.runeStart b)) ∧ w' = w := Any.utf8_RuneStart lays120 b w h0 h1
theorem arune_any (B : Nat) (v : Value) (n : Nat) (xs : List Value) (r : Int) (hr0 : -2147483648 ≤ r) (hr1 : r ≤ 2147483647) (w : World) (hown : w.ownsRow B 5 1 v n xs) (hlen : n + 4 ≤ 140737488355328) (hBw : B ≤ w.heap.size) :
    Calls Tryd.prog 30 #[v, .int .i32 r] w fun e w' => ∃ v', e = .returned v' ∧ w'.ownsRow B 5 1 v' (n + (Lib.runeCells r).length) (xs ++ Lib.runeCells r) ∧ ∃ o, (w.alloc o).grownBy w' v.ownBlock := Any.utf8_AppendRune_plain lays242 (by kernel_rfl) B v n xs r hr0 hr1 w hown hlen hBw
theorem uclone_any (s : ByteArray) (w : World) (h : s.size ≤ 281474976710656) :
    Calls Tryd.prog 48 #[.string s] w fun e w' => e = .returned (.string s) ∧ Below w.heap.size w w' := Any.stringslite_Clone lays316 s w h
theorem sclone_any (s : ByteArray) (w : World) (h : s.size ≤ 281474976710656) :
    Calls Tryd.prog 41 #[.string s] w fun e w' => e = .returned (.string s) ∧ Below w.heap.size w w' := by
  go_enter Tryd.func41, Tryd.ntmps41
  go_wp2_with fail
  refine (uclone_any s w h).mono ?_; rintro e w1 ⟨rfl, b1⟩
  go_wp2_with fail
  go_ret
  exact ⟨rfl, b1⟩
/-- The tables that the library reads. -/
def Tabs (w : World) : Prop := Lib.Utf8Tabs 0 1 w
theorem vstring_any (s : ByteArray) (w : World) (hs : s.size ≤ 9223372036854775807) (hT : Tabs w) :
    Calls Tryd.prog 35 #[.string s] w fun e w' => e = .returned (.bool (Lib.validD s.data.toList)) ∧ Below w.heap.size w w' := Any.utf8_ValidString lays196 s w hs hT
end Go.Proofs.YtahpiminhlineaaDoor
