/- What a fresh disk and a fresh journal's head read as; a slot's place. No condition. -/
import Derived.Test.YtmgbmnbjionapaaJRec
import Derived.Test.YtmgbmnbjionapaaJPlaced
namespace Go.Proofs.Ytmgbmnbjionapaa
open Go.RowKit

theorem new_rd (T n : Nat) (h : n < T) : (DM.new T).rd n = List.replicate 256 0 := by
  rw [rd_still rfl]
  unfold blkN DM.new
  rw [List.drop_replicate, List.take_replicate]
  congr 1
  omega
theorem land_rd (D : DM) (T b : Nat) (l : List Nat) (hD : D.Ok T) (hb : b < T) (hl : l.length = 256) : (D.land [(b, l)]).rd b = l := by
  rw [rd_still rfl]
  show blkN (wrAll D.img [(b, l)]) b = l
  rw [blk_wr T b hb [(b, l)] D.img hD.len (by intro x hx; simp only [List.mem_singleton] at hx; subst hx; exact ⟨hb, hl⟩)]
  simp [lastD]
theorem zeros_lt : ∀ x ∈ List.replicate 256 0, x < 256 := by
  intro x hx
  rw [List.eq_of_mem_replicate hx]; decide
theorem zeros_17 : (List.replicate 256 0)[17]? = some 0 := rfl
theorem zeros_seq : 0 = leGet (((List.replicate 256 0).drop 20).take 8) := by decide
theorem zeros_no (b s seq : Nat) : (List.replicate 256 0).take 32 ≠ sectN b s 0 seq := by
  intro h
  have := congrArg (fun l => l[0]?) h
  exact absurd (show (some 0 : Option Nat) = some 112 from this) (by decide)
theorem head_lt (b s cnt seq : Nat) (hs : s < 256) (hc : cnt < 256) : ∀ x ∈ headN b s cnt seq, x < 256 := by
  intro x hx
  unfold headN at hx
  rcases List.mem_append.mp hx with h | h
  · exact sectN_lt b s cnt seq hs hc x h
  · rw [List.eq_of_mem_replicate h]; decide
theorem head_take (b s cnt seq : Nat) : (headN b s cnt seq).take 32 = sectN b s cnt seq := by
  unfold headN
  rw [List.take_append_of_le_length (by rw [sectN_length]; omega), List.take_of_length_le (by rw [sectN_length]; omega)]
theorem head_17 (b s cnt seq : Nat) : (headN b s cnt seq)[17]? = some cnt := rfl
theorem head_seq0 (b s cnt : Nat) : 0 = leGet (((headN b s cnt 0).drop 20).take 8) := by
  have : ((headN b s cnt 0).drop 20).take 8 = List.replicate 8 0 := rfl
  rw [this]; decide
set_option maxRecDepth 100000 in
theorem slot_any (q p b s i : Nat) (w : World) (hJ : Bk w q 101 (JrC p b s)) (hb : b ≤ 10000) (hi : i ≤ 10000) : Calls Try.prog 74 #[.pointer (some ⟨q, 0, none⟩), .int .i64 (i : Int)] w fun e w' => e = .returned (.int .i64 ((b : Int) + 2 + (i : Int))) ∧ w = w' := by
  have j1 := hJ.cell 1
  simp only [JrC, List.getElem?_toArray, List.getElem?_cons_zero, List.getElem?_cons_succ] at j1
  have e1 : wrap64 ((b : Int) + 2) = (b : Int) + 2 := IntWalk.wrap64_in _ ⟨by omega, by omega⟩
  have e2 : wrap64 ((b : Int) + 2 + (i : Int)) = (b : Int) + 2 + (i : Int) := IntWalk.wrap64_in _ ⟨by omega, by omega⟩
  clear hJ hb hi
  go_enter Try.func74, Try.ntmps74
  go_wp2_with fail
  go_ret
  exact ⟨congrArg Ending.returned (congrArg (Value.int .i64) e2), rfl⟩
end Go.Proofs.Ytmgbmnbjionapaa
