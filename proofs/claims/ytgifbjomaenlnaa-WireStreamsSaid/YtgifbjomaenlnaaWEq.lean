/- bytes.Equal. Condition: the bytes lie in memory. -/
import Derived.Test.YtgifbjomaenlnaaTxtP
import Derived.StillTailTactics
import Derived.Lib.LazyBuf
namespace Go.Proofs.Ytgifbjomaenlnaa
open Go.RowKit

theorem txt_inj {x y : List Nat} (hx : ∀ a ∈ x, a < 256) (hy : ∀ a ∈ y, a < 256) (h : txt x = txt y) : x = y := by
  unfold txt at h
  have h1 : x.map UInt8.ofNat = y.map UInt8.ofNat := by
    have := congrArg ByteArray.data h
    exact Array.toList_inj.2 this
  have h2 := congrArg (List.map UInt8.toNat) h1
  rw [List.map_map, List.map_map] at h2
  have e : ∀ l : List Nat, (∀ a ∈ l, a < 256) → l.map (UInt8.toNat ∘ UInt8.ofNat) = l := by
    intro l hl
    conv => rhs; rw [← List.map_id l]
    apply List.map_congr_left
    intro a ha
    have := hl a ha
    simp [Nat.mod_eq_of_lt this]
  rwa [e x hx, e y hy] at h2
theorem txt_beq {x y : List Nat} (hx : ∀ a ∈ x, a < 256) (hy : ∀ a ∈ y, a < 256) : ((txt x).toList == (txt y).toList) = decide (x = y) := by
  by_cases h : x = y
  · subst h; simp
  · have h1 : ¬ (txt x).toList = (txt y).toList := fun e => by
      rw [ByteArray.toList_eq, ByteArray.toList_eq] at e
      exact h (txt_inj hx hy (ByteArray.ext (Array.toList_inj.1 e)))
    rw [beq_eq_false_iff_ne.2 h1]
    simp [h]

set_option maxRecDepth 100000 in
theorem equal_any (A B : Option Addr) (n m c d : Nat) (x y : List Nat) (hn : n = x.length) (hm : m = y.length) (w : World) (hA : Seg w A (u8s x)) (hB : Seg w B (u8s y)) (hx : ∀ a ∈ x, a < 256) (hy : ∀ a ∈ y, a < 256) :
    Calls Try.prog 38 #[.slice A n c, .slice B m d] w fun e w' => e = .returned (.bool (decide (x = y))) ∧ w = w' := by
  have h1 := run_txt w A n c x hn hA hx
  have h2 := run_txt w B m d y hm hB hy
  rw [← txt_beq hx hy]
  generalize txt x = X at *
  generalize txt y = Y at *
  clear hn hm hA hB hx hy
  go_enter Try.func38, Try.ntmps38
  go_wp2
  go_ret
  exact ⟨rfl, rfl⟩
end Go.Proofs.Ytgifbjomaenlnaa
