/- The library's Itoa, Atoi and ParseUint (at base 16) at this program. Conditions: its table of powers of ten and its two errors are laid. -/
import Derived.Test.YtjlkmfnkpnmbiaaDoorProg
import Derived.Test.YtjlkmfnkpnmbiaaDoorWhU
import Derived.WalkKit
import Derived.WalkMore
import Derived.Below
import Derived.Shelf.LaysM
import Derived.Shelf.LaysC
import Derived.Shelf.Strconv.Itoa3
import Derived.Shelf.Strconv.AtoiAll
import Derived.Shelf.Pu.ToError
import Derived.Shelf.Pu.ToErrorRange
import Derived.Lib.AppendIntMem
namespace Go.Proofs.YtjlkmfnkpnmbiaaDoor
open Go.RowKit Go.Shelf

def cRen : Ren where
  f := fun n => if n = 129 then 69 else if n = 171 then 47 else if n = 172 then 59 else if n = 205 then 96 else if n = 243 then 54 else if n = 244 then 73 else if n = 245 then 72 else if n = 246 then 70 else if n = 247 then 89 else if n = 279 then 85 else if n = 280 then 86 else if n = 281 then 87 else if n = 282 then 88 else if n = 283 then 79 else if n = 284 then 80 else if n = 285 then 81 else if n = 286 then 82 else if n = 287 then 71 else if n = 316 then 95 else if n = 317 then 91 else if n = 318 then 92 else if n = 319 then 93 else if n = 320 then 94 else if n = 321 then 83 else if n = 322 then 84 else if n = 337 then 97 else if n = 338 then 98 else n
  t := fun n => if n = 0 then 0 else if n = 2 then 2 else if n = 3 then 3 else if n = 4 then 4 else if n = 5 then 5 else if n = 9 then 9 else if n = 20 then 20 else if n = 21 then 21 else if n = 37 then 44 else if n = 46 then 70 else if n = 51 then 95 else if n = 53 then 22 else if n = 75 then 82 else if n = 76 then 85 else if n = 80 then 134 else if n = 85 then 114 else if n = 127 then 128 else if n = 143 then 129 else if n = 145 then 131 else if n = 167 then 108 else if n = 168 then 111 else if n = 171 then 104 else if n = 173 then 106 else if n = 175 then 83 else if n = 210 then 126 else if n = 212 then 121 else if n = 213 then 122 else if n = 232 then 132 else if n = 233 then 133 else n
  g := fun n => if n = 15 then 2 else if n = 16 then 3 else if n = 17 then 1 else if n = 18 then 4 else if n = 19 then 5 else n
def uRen : Ren where
  f := fun n => if n = 14 then 58 else if n = 16 then 71 else if n = 17 then 72 else if n = 19 then 83 else if n = 20 then 84 else if n = 21 then 85 else if n = 22 then 86 else if n = 23 then 87 else if n = 24 then 88 else if n = 25 then 95 else if n = 26 then 96 else if n = 27 then 47 else if n = 28 then 54 else if n = 29 then 70 else if n = 30 then 79 else if n = 31 then 80 else if n = 32 then 81 else if n = 33 then 82 else if n = 34 then 91 else if n = 35 then 69 else if n = 36 then 92 else if n = 37 then 93 else if n = 38 then 94 else if n = 39 then 97 else if n = 40 then 98 else n
  t := fun n => if n = 0 then 0 else if n = 2 then 2 else if n = 3 then 3 else if n = 4 then 4 else if n = 5 then 5 else if n = 9 then 9 else if n = 20 then 20 else if n = 21 then 21 else if n = 22 then 22 else if n = 24 then 82 else if n = 25 then 83 else if n = 34 then 108 else if n = 36 then 70 else if n = 37 then 44 else if n = 39 then 111 else if n = 44 then 126 else if n = 47 then 128 else if n = 48 then 129 else if n = 50 then 131 else if n = 52 then 104 else if n = 55 then 106 else if n = 59 then 121 else if n = 60 then 95 else if n = 61 then 122 else if n = 65 then 132 else if n = 66 then 133 else if n = 67 then 134 else n
  g := fun n => if n = 0 then 2 else if n = 1 then 3 else if n = 2 then 1 else if n = 3 then 4 else if n = 4 then 5 else n
theorem lays171a : Lays.n171 Tryd.prog cRen := by
  constructor <;> first | kernel_rfl | (intro w; kernel_rfl)
theorem lays171 : LaysM.n171 Tryd.prog cRen := by
  constructor <;> first | exact lays171a | kernel_rfl | (intro w; kernel_rfl)
theorem lays172a : Lays.n172 Tryd.prog cRen := by
  constructor <;> first | kernel_rfl | (intro w; kernel_rfl)
theorem lays172m : LaysM.n172 Tryd.prog cRen := by
  constructor <;> first | exact lays172a | kernel_rfl | (intro w; kernel_rfl)
theorem lays172 : LaysC.n172 Tryd.prog cRen := by
  constructor <;> first | exact lays172m | kernel_rfl | (intro w; kernel_rfl)
theorem laysPu14 : LaysPu.n14 Tryd.prog uRen := by
  constructor <;> first | kernel_rfl | (intro w; kernel_rfl)
/-- The table that the library reads. -/
def Pows (w : World) : Prop := Lib.TabIs Tryd.prog w "internal/strconv.uint64pow10" .u64 Lib.pow10Tab
/-- The two errors that it reads. -/
structure Errs (w : World) : Prop where
  syn : ∃ t p, w.cell? ⟨2, 0, none⟩ = some (.iface t p)
  ran : ∃ t p, w.cell? ⟨3, 0, none⟩ = some (.iface t p)
theorem itoa_any (n : Int) (h0 : -9223372036854775808 ≤ n) (h1 : n ≤ 9223372036854775807) (w : World) (hT : Pows w) :
    Calls Tryd.prog 47 #[.int .i64 n] w fun e w' => e = .returned (.string ⟨(Lib.itoa n).toArray⟩) ∧ Below w.heap.size w w' :=
  (Any.strconv_Itoa lays171 n h0 h1 w hT).mono fun e w' ⟨h, k, os, hw⟩ => ⟨h, by subst hw; exact Lib.below_grow _ w (Nat.le_refl _) k os⟩
/-- What Atoi answers: the number; or some number and an error. -/
def AtoiR (s : ByteArray) (n : Int) (e : Value) : Prop := -9223372036854775808 ≤ n ∧ n ≤ 9223372036854775807 ∧ (Lib.atoiAll s.data.toList = .ok n ∧ e = .nilIface ∨ (∃ t p, e = .iface t p) ∧ ∀ m, Lib.atoiAll s.data.toList ≠ .ok m)
theorem atoi_any (s : ByteArray) (hs : s.size ≤ 281474976710656) (w : World) (hE : Errs w) :
    Calls Tryd.prog 59 #[.string s] w fun e w' => ∃ n v, e = .returned (.tuple #[.int .i64 n, v]) ∧ AtoiR s n v ∧ Below w.heap.size w w' := by
  match h : Lib.atoiAll s.data.toList with
  | .ok n =>
    have hb := Lib.atoiAll_bounds h
    refine (Any.strconv_Atoi_ok lays172 s (by omega) n h w).mono fun e w' ⟨he, hw⟩ => ⟨n, .nilIface, he, ⟨hb.1, hb.2, Or.inl ⟨h, rfl⟩⟩, ?_⟩
    rcases hw with rfl | ⟨t, rfl⟩
    · exact Below.refl _ _
    · exact Lib.bytesWorld_below _ _ _
  | Lib.NumEnd.syntax =>
    obtain ⟨t, p, hc⟩ := hE.syn
    exact (Any.strconv_Atoi_syntax lays172 s hs h (.iface t p) w hc (Or.inr ⟨t, p, rfl⟩)).mono fun e w' ⟨N, he, _, _, hb⟩ => ⟨0, _, he, ⟨by omega, by omega, Or.inr ⟨⟨_, _, rfl⟩, fun m hm => by rw [h] at hm; cases hm⟩⟩, hb⟩
  | .range =>
    obtain ⟨t, p, hc⟩ := hE.ran
    have hb := Lib.atoiSat_bounds s.data.toList
    exact (Any.strconv_Atoi_range lays172 s hs h (.iface t p) w hc (Or.inr ⟨t, p, rfl⟩)).mono fun e w' ⟨N, he, _, _, hb'⟩ => ⟨_, _, he, ⟨hb.1, hb.2, Or.inr ⟨⟨_, _, rfl⟩, fun m hm => by rw [h] at hm; cases hm⟩⟩, hb'⟩
end Go.Proofs.YtjlkmfnkpnmbiaaDoor
