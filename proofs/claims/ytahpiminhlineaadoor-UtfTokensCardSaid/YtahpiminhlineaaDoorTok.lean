/- The words of a valid text by the library's FieldsFunc and DeleteFunc. Condition: the library's tables are laid. -/
import Derived.Test.YtahpiminhlineaaDoorJoinM
import Derived.Test.YtahpiminhlineaaDoorUtfE
import Derived.Shelf.Strings.FieldsFuncAny
import Derived.Shelf.SlicesE.DeleteFunc
import Derived.Lib.OwnBridge
namespace Go.Proofs.YtahpiminhlineaaDoor
open Go.RowKit Go.Shelf Go.PlainAid Go.Lib Go.Sort

def fRen : Ren where
  f := fun n => if n = 229 then 32 else n
  t := fun n => if n = 0 then 0 else if n = 3 then 3 else if n = 4 then 4 else if n = 9 then 9 else if n = 21 then 21 else if n = 31 then 31 else if n = 40 then 25 else if n = 152 then 57 else if n = 154 then 59 else n
  g := fun n => n
theorem lays229 : Lays.n229 Tryd.prog fRen := by
  constructor <;> first | kernel_rfl | (intro w; kernel_rfl)
def dRen : Ren where
  f := fun n => if n = 10 then 31 else if n = 6 then 45 else n
  t := fun n => if n = 0 then 0 else if n = 3 then 3 else if n = 4 then 4 else if n = 22 then 31 else if n = 23 then 9 else if n = 25 then 34 else n
  g := fun n => n
theorem lays10 : SlLaysH.n10 Tryd.prog dRen := by
  constructor
  case f6 => exact ⟨Tryd.f45.name, by kernel_rfl, by kernel_rfl⟩
  case f10 => exact ⟨Tryd.f31.name, by kernel_rfl, by kernel_rfl⟩
  all_goals first | kernel_rfl | (intro w; kernel_rfl)
theorem gap_gives (x : Nat) (hx : x ≤ 1114111) (W : World) : FnGives Tryd.prog 33 #[] #[encR x] (.bool (!letterB (x : Int))) W := by
  show Calls Tryd.prog 33 #[.int .i32 (x : Int)] W _
  go_enter Tryd.func33, Tryd.ntmps33
  go_wp2_with fail
  refine (letter_any (x : Int) (by omega) W).mono ?_
  rintro e w1 ⟨rfl, rfl⟩
  go_wp2_with fail
  go_ret
  exact ⟨rfl, 0, rfl⟩
theorem long_gives (x : ByteArray) (W : World) : FnGives Tryd.prog 34 #[] #[.string x] (.bool (decide (32 < x.size))) W := by
  show Calls Tryd.prog 34 #[.string x] W _
  have HD := Lib.hid (show decide (32 < x.size) = decide ((32 : Int) < (x.size : Int)) from decide_eq_decide.2 (by omega))
  go_enter Tryd.func34, Tryd.ntmps34
  go_wp2_with fail
  go_ret
  exact ⟨by rw [HD.out]; rfl, 0, rfl⟩
theorem fields_any (s : ByteArray) (hs : s.size ≤ 4294967296) (w : World) :
    Calls Tryd.prog 32 #[.string s, .func (.func 33) #[] #[]] w fun e w' => ∃ A, e = .returned (.slice (some ⟨A, 0, none⟩) (goFieldsP (fun r => !letterB (r : Int)) s).length (goFieldsP (fun r => !letterB (r : Int)) s).length) ∧ w.heap.size ≤ A ∧
      w'.ownsRow w.heap.size 9 1 (.slice (some ⟨A, 0, none⟩) (goFieldsP (fun r => !letterB (r : Int)) s).length (goFieldsP (fun r => !letterB (r : Int)) s).length) (goFieldsP (fun r => !letterB (r : Int)) s).length ((goFieldsP (fun r => !letterB (r : Int)) s).map Value.string) ∧ Below w.heap.size w w' :=
  Any.strings_FieldsFunc_runes lays229 33 #[] (enters_of Tryd.func33 (by kernel_rfl) rfl) (fun r => !letterB (r : Int)) s w hs (fun W x hx _ => gap_gives x hx W) (by kernel_rfl) (by kernel_rfl)
theorem foldFrom_len (s : ByteArray) : ∀ (f pos : Nat), (foldFrom s f pos).length ≤ 4 * f
  | 0, _ => Nat.le_refl _
  | f + 1, pos => by
    rw [foldFrom]
    split
    · have h1 := Lib.runeCells_le (lowerZ (Utf8.decode s pos).1)
      rw [Lib.runeCells_length] at h1
      have h2 := foldFrom_len s f (pos + (Utf8.decode s pos).2)
      rw [List.length_append]
      omega
    · simp
theorem foldS_size (s : ByteArray) : (foldS s).size ≤ 4 * s.size := by
  have := foldFrom_len s s.size 0
  show (foldL s).toArray.size ≤ _
  simpa [foldL] using this
theorem del_any (L : List ByteArray) (A B n : Nat) (hn : n ≤ 100000) (w : World) (hown : w.ownsRow B 9 1 (.slice (some ⟨A, 0, none⟩) n n) n (L.map Value.string)) :
    Calls Tryd.prog 31 #[.slice (some ⟨A, 0, none⟩) n n, .func (.func 34) #[] #[]] w fun e w' => e = .returned (.slice (some ⟨A, 0, none⟩) (L.filter fun x => !decide (32 < x.size)).length n) ∧
      w'.ownsRow B 9 1 (.slice (some ⟨A, 0, none⟩) (L.filter fun x => !decide (32 < x.size)).length n) (L.filter fun x => !decide (32 < x.size)).length ((L.filter fun x => !decide (32 < x.size)).map Value.string) ∧ (B ≤ w.heap.size → Below B w w') := by
  obtain ⟨g, cap, e0, hg, hlt, hnc, hmax, hlen, hH⟩ := holds_of_ownsRow hown (by intro e; cases e)
  injection e0 with e1 _ e3
  injection e1 with e1
  injection e1 with e1
  subst e1; subst e3
  have C := AnyE.slices_DeleteFunc lays10 Value.string (fun _ => rfl) (fun x => decide (32 < x.size)) 34 #[] (enters_of Tryd.func34 (by kernel_rfl) rfl) (⟨#[]⟩ : ByteArray) (fun w => by kernel_rfl) A 0 n L.toArray w
    (fun W x _ => long_gives x W) (fun _ _ _ x _ => long_gives x _) hH (by simp; omega) (by simp; omega)
  have hk : (L.filter fun x => !decide (32 < x.size)).length ≤ n := by rw [← hlen]; exact List.length_filter_le _ _
  rw [show L.toArray.size = n by simpa using hlen, show L.toArray.toList = L from rfl] at C
  refine C.mono ?_
  rintro e w' ⟨rfl, q, rfl⟩
  have ho := ownsRow_putRow (q := q) (ys := (L.filter fun x => !decide (32 < x.size)) ++ List.replicate (n - (L.filter fun x => !decide (32 < x.size)).length) (⟨#[]⟩ : ByteArray)) hown (by rw [List.length_append, List.length_replicate]; omega) hk
  rw [List.take_left] at ho
  exact ⟨rfl, ho, fun _ => below_putRow (Below.refl _ _) hg⟩
set_option maxRecDepth 100000 in
set_option maxHeartbeats 1000000 in
theorem tokens_ok (s : ByteArray) (hs : s.size ≤ 401) (hv : Lib.validD s.data.toList = true) (w : World) (hT : Tabs w) :
    Calls Tryd.prog 16 #[.string s] w fun e w' => (∃ A c, e = .returned (.tuple #[.slice (some ⟨A, 0, none⟩) (tokL s).length c, .int .i64 0]) ∧ (tokL s).length ≤ c ∧ Seg w' (some ⟨A, 0, none⟩) (strV (tokL s))) ∧ Below w.heap.size w w' := by
  have CF := Lib.hid (fold_ok s (by omega) hv w hT)
  have hfz : (foldS s).size ≤ 1604 := by have := foldS_size s; omega
  obtain ⟨f, hf⟩ : ∃ f, f = foldS s := ⟨_, rfl⟩
  have htk : tokL s = (goFieldsP (fun r => !letterB (r : Int)) f).filter fun x => !decide (32 < x.size) := by rw [hf]; rfl
  rw [← hf] at CF hfz
  have hfl : (goFieldsP (fun r => !letterB (r : Int)) f).length ≤ 100000 := by
    rw [goFields_pieces]
    have := pieces_len (fun r => !letterB (r : Int)) f f.size 0 none
    omega
  have CG := fun w => fields_any f (by omega) w
  obtain ⟨L, hL⟩ : ∃ L, L = goFieldsP (fun r => !letterB (r : Int)) f := ⟨_, rfl⟩
  rw [← hL] at htk hfl
  simp only [← hL] at CG
  have HCG := Lib.hid CG
  obtain ⟨K, hK⟩ : ∃ K, K = L.filter fun x => !decide (32 < x.size) := ⟨_, rfl⟩
  have CD := fun A B n hn w hown => del_any L A B n hn w hown
  rw [← hK] at htk
  simp only [← hK] at CD
  have HCD := Lib.hid CD
  rw [htk]
  obtain ⟨n, hn⟩ : ∃ n, n = L.length := ⟨_, rfl⟩
  obtain ⟨k, hk⟩ : ∃ k, k = K.length := ⟨_, rfl⟩
  rw [← hn] at hfl HCG
  rw [← hk] at HCD ⊢
  clear hL htk CG CD hf hT hK hn hk
  go_enter Tryd.func16, Tryd.ntmps16
  go_wp2_with fail
  refine CF.out.mono ?_
  rintro e w1 ⟨rfl, hb1⟩
  have HB1 := Lib.hid hb1
  clear hb1 CF
  go_wp2_with fail
  refine (HCG.out w1).mono ?_
  rintro e w2 ⟨A, rfl, hA, hown, hb2⟩
  have HB2 := Lib.hid hb2
  have HOWN := Lib.hid hown
  clear hb2 hown HCG
  go_wp2_with fail
  refine (HCD.out A w1.heap.size n (by omega) w2 HOWN.out).mono ?_
  rintro e w3 ⟨rfl, hown3, hb3⟩
  have HB3 := Lib.hid (HB2.out.trans (hb3 HB2.out.size))
  have HO := Lib.hid hown3
  clear hb3 hown3 HCD
  go_wp2_with fail
  obtain ⟨A', c', e1, hc', hseg⟩ := own_shape HO.out
  injection e1 with e2 _ e4
  subst e2 e4
  exact bodyPost_ret (v := .tuple #[.slice (some ⟨A, 0, none⟩) k n, .int .i64 0]) (by simp [results, Tryd.results16, go_sem]) rfl ⟨⟨A, n, rfl, hc', hseg⟩, below_step HB1.out HB3.out⟩
end Go.Proofs.YtahpiminhlineaaDoor
