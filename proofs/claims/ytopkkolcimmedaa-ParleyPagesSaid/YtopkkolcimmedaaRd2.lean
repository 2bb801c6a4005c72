/- The steps of a reader of a node's block. Condition: the bytes lie in memory, apart from the reader itself. -/
import Derived.Test.YtopkkolcimmedaaRd
import Derived.Test.YtopkkolcimmedaaRdM
import Derived.IntWalk
import Derived.BigQuiet
import Derived.Deep.QuietTactic
namespace Go.Proofs.Ytopkkolcimmedaa
open Go.RowKit
variable {B : Nat}

theorem KQ.drewN {q : Nat} {w w' : World} (h : KQ q w w') (n : Nat) : KQ q w (w'.drewN n) := ⟨below_drewN h.bel n, ⟨h.kept.size, h.kept.block⟩⟩
theorem Rd.drewN {w : World} {q : Nat} {l : List Nat} (h : Rd B w q l) (n : Nat) : Rd B (w.drewN n) q l := h
theorem number_ok (q x : Nat) (l : List Nat) (hx : x < 256) (w : World) (h : Rd B w q (x :: l)) :
    Calls Try.prog 45 #[.pointer (some ⟨q, 0, none⟩)] w fun e w' => e = .returned (.int .i64 (x : Int)) ∧ Rd B w' q l ∧ KQ q w w' := by
  have HT := Lib.hid (take_ok q 1 (x :: l) w h (by simp))
  go_enter Try.func45, Try.ntmps45
  go_wp2_with fail
  refine HT.out.mono ?_
  rintro e w1 ⟨⟨A, c, rfl, hc, hs⟩, hr, hk⟩
  obtain ⟨b, off, rfl, _, _, hcell⟩ := hs.pick (k := 0) (by simp [u8s])
  have hcell : w1.cell? ⟨b, off + 0, none⟩ = some (.int .u8 (x : Int)) := hcell
  rw [Nat.add_zero] at hcell
  have HR := Lib.hid hr
  have HK := Lib.hid hk
  clear hr hk hs
  go_wp2_with fail
  go_ret
  exact ⟨rfl, HR.out, HK.out⟩
theorem number_no (q : Nat) (w : World) (h : Rd B w q []) :
    Calls Try.prog 45 #[.pointer (some ⟨q, 0, none⟩)] w fun e w' => e = .panicked brokenE ∧ w = w' := by
  have HT := Lib.hid (take_no q 1 [] w h (by simp))
  go_enter Try.func45, Try.ntmps45
  go_wp2_with fail
  refine HT.out.mono ?_
  rintro e w1 ⟨rfl, rfl⟩
  exact ⟨rfl, rfl, rfl⟩
theorem text_ok (q : Nat) (l r : List Nat) (s : ByteArray) (w : World) (h : Rd B w q l) (hl : ∀ x ∈ l, x < 256) (hp : txtP l = some (s, r)) :
    Calls Try.prog 60 #[.pointer (some ⟨q, 0, none⟩)] w fun e w' => e = .returned (.string s) ∧ Rd B w' q r ∧ KQ q w w' := by
  rcases l with _ | ⟨x, l⟩
  · cases hp
  · change (if x ≤ l.length then some (txt (l.take x), l.drop x) else none) = some (s, r) at hp
    split at hp
    · rename_i hx
      injection hp with hp
      injection hp with h1 h2
      subst h1; subst h2
      have HT := Lib.hid (number_ok q x l (hl x (by simp)) w h)
      have HL := Lib.hid (show ∀ y ∈ l.take x, y < 256 from fun y hy => hl y (List.mem_cons_of_mem _ (List.mem_of_mem_take hy)))
      have HX := Lib.hid (show x = (l.take x).length by rw [List.length_take]; omega)
      have HC := Lib.hid (fun w2 A c hs => run_txt w2 A x c (l.take x) HX.out hs HL.out)
      obtain ⟨T, hT⟩ : ∃ T, T = txt (l.take x) := ⟨_, rfl⟩
      rw [← hT] at HC ⊢
      clear h hl hT
      go_enter Try.func60, Try.ntmps60
      go_wp2_with fail
      refine HT.out.mono ?_
      rintro e w1 ⟨rfl, hr, hk⟩
      have HT2 := Lib.hid (take_ok q x l w1 hr hx)
      have HK := Lib.hid hk
      clear hr hk
      go_wp2_with fail
      refine HT2.out.mono ?_
      rintro e w2 ⟨⟨A, c, rfl, hc, hs⟩, hr, hk⟩
      have hcv := HC.out w2 A c hs
      have HR := Lib.hid hr
      have HK2 := Lib.hid (HK.out.trans hk)
      clear hr hk hs
      go_wp2_with fail
      go_ret
      exact ⟨rfl, HR.out, HK2.out⟩
    · cases hp
theorem text_no (q : Nat) (l : List Nat) (w : World) (h : Rd B w q l) (hl : ∀ x ∈ l, x < 256) (hp : txtP l = none) :
    Calls Try.prog 60 #[.pointer (some ⟨q, 0, none⟩)] w fun e w' => e = .panicked brokenE ∧ KQ q w w' := by
  rcases l with _ | ⟨x, l⟩
  · have HT := Lib.hid (number_no q w h)
    go_enter Try.func60, Try.ntmps60
    go_wp2_with fail
    refine HT.out.mono ?_
    rintro e w1 ⟨rfl, rfl⟩
    exact ⟨rfl, rfl, KQ.refl _ _⟩
  · change (if x ≤ l.length then some (txt (l.take x), l.drop x) else none) = none at hp
    split at hp
    · cases hp
    · rename_i hx
      have HT := Lib.hid (number_ok q x l (hl x (by simp)) w h)
      clear h
      go_enter Try.func60, Try.ntmps60
      go_wp2_with fail
      refine HT.out.mono ?_
      rintro e w1 ⟨rfl, hr, hk⟩
      have HT2 := Lib.hid (take_no q x l w1 hr (by omega))
      have HK := Lib.hid hk
      clear hr hk
      go_wp2_with fail
      refine HT2.out.mono ?_
      rintro e w2 ⟨rfl, rfl⟩
      exact ⟨rfl, rfl, HK.out⟩
theorem or_kid (x y : Nat) (hx : x < 256) (hy : y < 256) : bits .or .i64 (x : Int) ((y : Int) * 256) = ((x + 256 * y : Nat) : Int) := by
  have h1 : (BitVec.ofInt 64 (x : Int)).toNat = x := by rw [BitVec.toNat_ofInt]; omega
  have h2 : (BitVec.ofInt 64 ((y : Int) * 256)).toNat = 256 * y := by rw [BitVec.toNat_ofInt]; omega
  have h3 : (BitVec.ofInt 64 (x : Int) ||| BitVec.ofInt 64 ((y : Int) * 256)).toNat = x + 256 * y := by
    rw [BitVec.toNat_or, h1, h2, Nat.or_comm, show 256 * y = 2 ^ 8 * y by omega, ← Nat.two_pow_add_eq_or_of_lt (i := 8) (b := x) (by omega) y]
    omega
  show IntKind.i64.wrap ((BitVec.ofInt 64 (x : Int) ||| BitVec.ofInt 64 ((y : Int) * 256)).toNat : Int) = _
  rw [h3]
  exact IntWalk.i64_in _ (by omega)
theorem kid_ok (q : Nat) (l r : List Nat) (k : Int) (w : World) (h : Rd B w q l) (hl : ∀ x ∈ l, x < 256) (hp : kidP l = some (k, r)) :
    Calls Try.prog 61 #[.pointer (some ⟨q, 0, none⟩)] w fun e w' => e = .returned (.int .i64 k) ∧ Rd B w' q r ∧ KQ q w w' := by
  rcases l with _ | ⟨x, _ | ⟨y, l⟩⟩
  · cases hp
  · cases hp
  · injection hp with hp
    injection hp with h1 h2
    subst h1; subst h2
    have hx := hl x (by simp)
    have hy := hl y (by simp)
    have HT := Lib.hid (take_ok q 2 (x :: y :: l) w h (by simp))
    have ho := or_kid x y hx hy
    generalize x + 256 * y = T at *
    clear h hl
    go_enter Try.func61, Try.ntmps61
    go_wp2_with fail
    refine HT.out.mono ?_
    rintro e w1 ⟨⟨A, c, rfl, hc, hs⟩, hr, hk⟩
    obtain ⟨b, off, rfl, _, hall, _⟩ := hs.pick (k := 0) (by simp [u8s])
    have c0 : w1.cell? ⟨b, off + 0, none⟩ = some (.int .u8 (x : Int)) := hall 0 (by simp [u8s])
    have c1 : w1.cell? ⟨b, off + 1, none⟩ = some (.int .u8 (y : Int)) := hall 1 (by simp [u8s])
    rw [Nat.add_zero] at c0
    have HR := Lib.hid hr
    have HK := Lib.hid hk
    clear hr hk hs hall
    go_wp2_with fail
    go_quiet (fail)
    go_wp2_with fail
    go_ret
    exact ⟨rfl, HR.out.drewN _, HK.out.drewN _⟩
theorem kid_no (q : Nat) (l : List Nat) (w : World) (h : Rd B w q l) (_hl : ∀ x ∈ l, x < 256) (hp : kidP l = none) :
    Calls Try.prog 61 #[.pointer (some ⟨q, 0, none⟩)] w fun e w' => e = .panicked brokenE ∧ KQ q w w' := by
  have hlen : l.length < 2 := by
    rcases l with _ | ⟨x, _ | ⟨y, l⟩⟩
    · simp
    · simp
    · cases hp
  have HT := Lib.hid (take_no q 2 l w h hlen)
  clear h hp hlen
  go_enter Try.func61, Try.ntmps61
  go_wp2_with fail
  refine HT.out.mono ?_
  rintro e w1 ⟨rfl, rfl⟩
  exact ⟨rfl, rfl, KQ.refl _ _⟩
end Go.Proofs.Ytopkkolcimmedaa
