/- The library's Itoa, Atoi, Cut, Contains and Clone at this program. Conditions: its table of powers of ten and its two errors are laid. -/
import Derived.Test.YtbpclifgafafdaaDoorProg
import Derived.Test.YtbpclifgafafdaaDoorTkM
import Derived.WalkKit
import Derived.WalkMore
import Derived.Below
import Derived.Shelf.LaysM
import Derived.Shelf.LaysC
import Derived.Shelf.Strconv.Itoa3
import Derived.Shelf.Strconv.AtoiAll
import Derived.Shelf.Strconv.Clone
import Derived.Shelf.Strings.Search3
import Derived.Lib.AppendIntMem
import Derived.BigQuiet
import Derived.Test.YtbpclifgafafdaaDoorMem
namespace Go.Proofs.YtbpclifgafafdaaDoor
open Go.RowKit Go.Shelf

def cRen : Ren where
  f := fun n => if n = 129 then 54 else if n = 171 then 17 else if n = 172 then 40 else if n = 205 then 72 else if n = 243 then 27 else if n = 244 then 51 else if n = 245 then 52 else if n = 246 then 36 else if n = 247 then 62 else if n = 279 then 63 else if n = 280 then 64 else if n = 281 then 65 else if n = 282 then 66 else if n = 283 then 43 else if n = 284 then 44 else if n = 285 then 45 else if n = 286 then 46 else if n = 287 then 71 else if n = 316 then 21 else if n = 317 then 53 else if n = 318 then 55 else if n = 319 then 56 else if n = 320 then 57 else if n = 321 then 73 else if n = 322 then 74 else if n = 337 then 67 else if n = 338 then 68 else n
  t := fun n => if n = 0 then 0 else if n = 2 then 2 else if n = 3 then 3 else if n = 4 then 4 else if n = 5 then 5 else if n = 9 then 9 else if n = 20 then 20 else if n = 21 then 21 else if n = 37 then 47 else if n = 46 then 65 else if n = 51 then 78 else if n = 53 then 89 else if n = 75 then 83 else if n = 76 then 84 else if n = 80 then 125 else if n = 85 then 107 else if n = 127 then 73 else if n = 143 then 122 else if n = 145 then 124 else if n = 167 then 106 else if n = 168 then 109 else if n = 171 then 88 else if n = 173 then 92 else if n = 175 then 114 else if n = 210 then 117 else if n = 212 then 102 else if n = 213 then 103 else if n = 232 then 119 else if n = 233 then 120 else n
  g := fun n => if n = 15 then 2 else if n = 16 then 3 else if n = 17 then 0 else if n = 18 then 4 else if n = 19 then 5 else n
def sRen : Ren where
  f := fun n => if n = 143 then 41 else if n = 144 then 32 else if n = 217 then 58 else if n = 219 then 50 else if n = 224 then 60 else if n = 225 then 59 else if n = 266 then 69 else if n = 267 then 61 else if n = 314 then 70 else if n = 316 then 21 else n
  t := fun n => if n = 3 then 3 else if n = 4 then 4 else if n = 5 then 5 else if n = 9 then 9 else if n = 46 then 65 else if n = 51 then 78 else if n = 146 then 96 else if n = 0 then 0 else if n = 37 then 47 else if n = 127 then 73 else n
  g := fun n => if n = 1 then 1 else n
theorem lays171a : Lays.n171 Tryd.prog cRen := by
  constructor <;> first | kernel_rfl | (intro w; kernel_rfl)
theorem lays171 : LaysM.n171 Tryd.prog cRen := by
  constructor <;> first | exact lays171a | kernel_rfl | (intro w; kernel_rfl)
theorem lays172a : Lays.n172 Tryd.prog cRen := by
  constructor <;> first | kernel_rfl | (intro w; kernel_rfl)
theorem lays172m : LaysM.n172 Tryd.prog cRen := by
  constructor <;> first | exact lays172a | kernel_rfl | (intro w; kernel_rfl)
theorem lays172 : LaysC.n172 Tryd.prog cRen := by
  constructor <;> first | exact lays172m | kernel_rfl | (intro w; kernel_rfl)
theorem lays219 : Lays.n219 Tryd.prog sRen := by
  constructor <;> first | kernel_rfl | (intro w; kernel_rfl)
theorem lays144 : Lays.n144 Tryd.prog sRen := by
  constructor <;> first | kernel_rfl | (intro w; kernel_rfl)
theorem lays316a : Lays.n316 Tryd.prog sRen := by
  constructor <;> first | kernel_rfl | (intro w; kernel_rfl)
theorem lays316 : LaysM.n316 Tryd.prog sRen := by
  constructor <;> first | exact lays316a | kernel_rfl | (intro w; kernel_rfl)
/-- The table that the library reads. -/
def Pows (w : World) : Prop := Lib.TabIs Tryd.prog w "internal/strconv.uint64pow10" .u64 Lib.pow10Tab
/-- The two errors that it reads. -/
structure Errs (w : World) : Prop where
  syn : ∃ t p, w.cell? ⟨2, 0, none⟩ = some (.iface t p)
  ran : ∃ t p, w.cell? ⟨3, 0, none⟩ = some (.iface t p)
theorem itoa_any (n : Int) (h0 : -9223372036854775808 ≤ n) (h1 : n ≤ 9223372036854775807) (w : World) (hT : Pows w) :
    Calls Tryd.prog 17 #[.int .i64 n] w fun e w' => e = .returned (.string ⟨(Lib.itoa n).toArray⟩) ∧ Below w.heap.size w w' :=
  (Any.strconv_Itoa lays171 n h0 h1 w hT).mono fun e w' ⟨h, k, os, hw⟩ => ⟨h, by subst hw; exact Lib.below_grow _ w (Nat.le_refl _) k os⟩
/-- What Atoi answers: the number; or some number and an error. -/
def AtoiR (s : ByteArray) (n : Int) (e : Value) : Prop := -9223372036854775808 ≤ n ∧ n ≤ 9223372036854775807 ∧ (Lib.atoiAll s.data.toList = .ok n ∧ e = .nilIface ∨ (∃ t p, e = .iface t p) ∧ ∀ m, Lib.atoiAll s.data.toList ≠ .ok m)
theorem atoi_any (s : ByteArray) (hs : s.size ≤ 281474976710656) (w : World) (hE : Errs w) :
    Calls Tryd.prog 40 #[.string s] w fun e w' => ∃ n v, e = .returned (.tuple #[.int .i64 n, v]) ∧ AtoiR s n v ∧ Below w.heap.size w w' := by
  match h : Lib.atoiAll s.data.toList with
  | .ok n =>
    have hb := Lib.atoiAll_bounds h
    refine (Any.strconv_Atoi_ok lays172 s (by omega) n h w).mono fun e w' ⟨he, hw⟩ => ⟨n, .nilIface, he, ⟨hb.1, hb.2, Or.inl ⟨h, rfl⟩⟩, ?_⟩
    rcases hw with rfl | ⟨t, rfl⟩
    · exact Below.refl _ _
    · exact Lib.bytesWorld_below _ _ _
  | Lib.NumEnd.syntax =>
    obtain ⟨t, p, hc⟩ := hE.syn
    exact (Any.strconv_Atoi_syntax lays172 s hs h (.iface t p) w hc (Or.inr ⟨t, p, rfl⟩)).mono fun e w' ⟨N, he, _, _, hb⟩ => ⟨0, _, he, ⟨by omega, by omega, Or.inr ⟨⟨_, _, rfl⟩, fun m hm => by rw [h] at hm; cases hm⟩⟩, hb⟩
  | .range =>
    obtain ⟨t, p, hc⟩ := hE.ran
    have hb := Lib.atoiSat_bounds s.data.toList
    exact (Any.strconv_Atoi_range lays172 s hs h (.iface t p) w hc (Or.inr ⟨t, p, rfl⟩)).mono fun e w' ⟨N, he, _, _, hb'⟩ => ⟨_, _, he, ⟨hb.1, hb.2, Or.inr ⟨⟨_, _, rfl⟩, fun m hm => by rw [h] at hm; cases hm⟩⟩, hb'⟩

theorem sclone_any (s : ByteArray) (h : s.size ≤ 281474976710656) (w : World) :
    Calls Tryd.prog 11 #[.string s] w fun e w' => e = .returned (.string s) ∧ Below w.heap.size w w' := by
  have C : Calls Tryd.prog 21 #[.string s] w fun e w' => e = .returned (.string s) ∧ Below w.heap.size w w' := Any.stringslite_Clone lays316 s w h
  go_enter Tryd.func11, Tryd.ntmps11
  go_wp2_with (go_at_call 21; refine C.mono ?_; rintro e w' ⟨rfl, hb⟩)
  go_ret
  exact ⟨rfl, hb⟩
theorem contains_any (s : ByteArray) (w : World) :
    Calls Tryd.prog 32 #[.string s, .string ⟨#[46]⟩] w fun e w' => e = .returned (.bool (cutD s.data.toList).2.2) ∧ w' = w := by
  refine (Any.strings_Contains_one lays144 s 46 w).mono fun e w' ⟨he, hw⟩ => ⟨?_, hw⟩
  rw [he, index_cut]
  cases (cutD s.data.toList).2.2 <;> simp
theorem tail_cut {l : List UInt8} (h : (cutD l).2.2 = true) : l.take (cutD l).1.length = (cutD l).1 ∧ l.drop ((cutD l).1.length + 1) = (cutD l).2.1 ∧ (cutD l).1.length < l.length := by
  obtain ⟨e, _⟩ := cutD_some h
  generalize (cutD l).1 = a at *
  generalize (cutD l).2.1 = b at *
  subst e
  refine ⟨by simp, ?_, by simp⟩
  rw [List.drop_append]
  simp
set_option maxRecDepth 100000 in
set_option maxHeartbeats 1000000 in
theorem lcut_any (l : List UInt8) (hl : l.length ≤ 281474976710656) (w : World) :
    Calls Tryd.prog 39 #[.string ⟨l.toArray⟩, .string ⟨#[46]⟩] w fun e w' => e = .returned (.tuple #[.string ⟨(cutD l).1.toArray⟩, .string ⟨(cutD l).2.1.toArray⟩, .bool (cutD l).2.2]) ∧ Below w.heap.size w w' := by
  have HI := Any.stringslite_Index_one lays219 ⟨l.toArray⟩ 46 w
  rw [index_cut] at HI
  have hrefl := Lib.hid (Below.refl w.heap.size w)
  cases hc : (cutD l).2.2
  · rw [show (cutD (⟨l.toArray⟩ : ByteArray).data.toList).2.2 = false from hc, if_neg (by decide)] at HI
    obtain ⟨e1, e2⟩ := cutD_none hc
    rw [e1, e2]
    clear e1 e2 hc
    go_enter Tryd.func39, Tryd.ntmps39
    go_wp2_with (go_at_call 50; refine HI.mono ?_; rintro e w' ⟨rfl, rfl⟩)
    go_ret3
    exact ⟨rfl, hrefl.out⟩
  · rw [show (cutD (⟨l.toArray⟩ : ByteArray).data.toList).2.2 = true from hc, if_pos rfl] at HI
    obtain ⟨e1, e2, e3⟩ := tail_cut hc
    obtain ⟨s, hs⟩ : ∃ s : ByteArray, s = ⟨l.toArray⟩ := ⟨_, rfl⟩
    obtain ⟨n, hn⟩ : ∃ n, n = (cutD l).1.length := ⟨_, rfl⟩
    have hsz : s.size = l.length := by rw [hs]; show l.toArray.size = _; simp
    rw [show (cutD (⟨l.toArray⟩ : ByteArray).data.toList).1 = (cutD l).1 from rfl] at HI
    rw [← hn] at HI e1 e2 e3
    have s1 : ∀ w', (Instr.slice 9 (.string s) none (some (.int .i64 (n : Int))) none).run Tryd.prog w' = .ok (.string ⟨(cutD l).1.toArray⟩) w' := fun w' => by
      rw [run_slice_string_h w' 9 s Tryd.underlying9 .i64 (n : Int) (by omega) (by omega), Int.toNat_natCast]
      congr 2
      subst hs
      apply ByteArray.ext
      rw [ByteArray.data_extract]
      apply Array.toList_inj.1
      simp [e1]
    have s2 : ∀ w', (Instr.slice 9 (.string s) (some (.int .i64 ((n : Int) + 1))) none none).run Tryd.prog w' = .ok (.string ⟨(cutD l).2.1.toArray⟩) w' := fun w' => by
      rw [run_slice_string_l w' 9 s Tryd.underlying9 .i64 ((n : Int) + 1) (by omega) (by omega), show ((n : Int) + 1).toNat = n + 1 by omega]
      congr 2
      rw [← e2]
      subst hs
      apply ByteArray.ext
      rw [ByteArray.data_extract]
      apply Array.toList_inj.1
      simp [ByteArray.size, List.take_of_length_le]
    rw [← hs] at HI ⊢
    have hn1 : (n : Int) < 281474976710657 := by omega
    clear hs hn hsz e1 e2 e3 hc
    go_enter Tryd.func39, Tryd.ntmps39
    go_wp2_with (go_at_call 50; refine HI.mono ?_; rintro e w' ⟨rfl, rfl⟩)
    go_quiet (fail)
    go_wp2
    go_ret3
    exact ⟨rfl, below_drewN hrefl.out _⟩
theorem cut_any (l : List UInt8) (hl : l.length ≤ 281474976710656) (w : World) :
    Calls Tryd.prog 30 #[.string ⟨l.toArray⟩, .string ⟨#[46]⟩] w fun e w' => e = .returned (.tuple #[.string ⟨(cutD l).1.toArray⟩, .string ⟨(cutD l).2.1.toArray⟩, .bool (cutD l).2.2]) ∧ Below w.heap.size w w' := by
  go_enter Tryd.func30, Tryd.ntmps30
  go_wp2_with (go_at_call 39; refine (lcut_any l hl _).mono ?_; rintro e w1 ⟨rfl, hb⟩)
  go_ret3
  exact ⟨rfl, hb⟩
end Go.Proofs.YtbpclifgafafdaaDoor
