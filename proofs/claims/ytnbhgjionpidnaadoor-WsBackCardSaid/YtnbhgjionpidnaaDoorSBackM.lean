/- A message in fragments is read back: what each frame comes to. No condition. -/
import Derived.Test.YtnbhgjionpidnaaDoorSEncM
namespace Go.Proofs.YtnbhgjionpidnaaDoor
open Go.RowKit

theorem runN_nil (mk : Bool) (k : Nat) (t : ByteArray) (n : Nat) : runN mk n k t [] = ([], some (k, t, [])) := by
  cases n with
  | zero => rfl
  | succ n => rw [runN, show frameN mk k t.size [] = .no 0 from rfl]; rfl
/-- A frame that is whole, and nothing behind it. -/
theorem feed_frame (fin : Bool) (op : Nat) (mk : Bool) (p : ByteArray) (M : Nat → Nat) (k : Nat) (t : ByteArray) (hop : op < 16) (hp : p.size ≤ 4096) (hf : fitsB k op fin (shortE p.size) = true) (h9 : ¬ (op < 8 ∧ 4096 < t.size + p.size)) (i : Option ItM) (k2 : Nat) (t2 : ByteArray) (hi : itemD k t ⟨fin, op, mk, p⟩ = .ok (i, some (k2, t2))) :
    feedN mk (some (k, t, [])) (encN ⟨fin, op, mk, p⟩ M) = (i.toList, some (k2, t2, [])) := by
  show runN mk ([] ++ encN ⟨fin, op, mk, p⟩ M).length.succ k t ([] ++ encN ⟨fin, op, mk, p⟩ M) = _
  rw [List.nil_append, runN]
  obtain ⟨mm, h⟩ := frame_enc fin op mk p M k t.size [] hop hp
  rw [List.append_nil] at h
  rw [h, if_neg (by rw [hf]; decide), if_neg h9]
  dsimp only
  rw [hi]
  dsimp only
  rw [runN_nil]
  simp
/-- A fragment: the first one has the message's kind. -/
theorem feed_part (op : Nat) (mk : Bool) (q : ByteArray) (M : Nat → Nat) (k : Nat) (t : ByteArray) (hk : (op = 0 ∧ k ≠ 0) ∨ ((op = 1 ∨ op = 2) ∧ k = 0)) (hz : t.size + q.size ≤ 4096) :
    feedN mk (some (k, t, [])) (encN ⟨false, op, mk, q⟩ M) = ([], some (if op = 0 then k else op, t ++ q, [])) := by
  have hit : itemD k t ⟨false, op, mk, q⟩ = .ok (none, some (if op = 0 then k else op, t ++ q)) := by
    unfold itemD
    dsimp only
    rw [if_neg (by omega), if_neg (by omega), if_pos rfl]
    by_cases h0 : op = 0
    · rw [if_neg (by omega), if_pos h0]
    · rw [if_pos (by omega), if_neg h0]
  exact feed_frame false op mk q M k t (by omega) (by omega) (by
    unfold fitsB
    rcases hk with ⟨rfl, h⟩ | ⟨h, rfl⟩
    · simp [h]
    · rcases h with rfl | rfl <;> rfl) (by omega) none _ _ hit
/-- A Ping between. -/
theorem feed_ping (mk : Bool) (p : ByteArray) (M : Nat → Nat) (k : Nat) (t : ByteArray) (hp : p.size ≤ 125) :
    feedN mk (some (k, t, [])) (encN ⟨true, 9, mk, p⟩ M) = ([⟨9, p, 0⟩], some (k, t, [])) :=
  feed_frame true 9 mk p M k t (by decide) (by omega) (by
    unfold fitsB shortE
    rw [if_pos (show p.size < 126 by omega)]
    simp
    omega) (by omega) (some ⟨9, p, 0⟩) k t rfl
/-- The last fragment. -/
theorem feed_fin (op : Nat) (mk : Bool) (q : ByteArray) (M : Nat → Nat) (k : Nat) (t : ByteArray) (K : Nat) (T : ByteArray) (hk : (op = 0 ∧ k = K ∧ K ≠ 0) ∨ (op = K ∧ (op = 1 ∨ op = 2) ∧ k = 0)) (hz : t.size + q.size ≤ 4096) (hT : t ++ q = T) (hv : K = 1 → Lib.validD T.data.toList = true) :
    feedN mk (some (k, t, [])) (encN ⟨true, op, mk, q⟩ M) = ([⟨K, T, 0⟩], some (0, ⟨#[]⟩, [])) := by
  have hK : (if op = 1 ∨ op = 2 then op else k) = K := by
    split <;> omega
  have hit : itemD k t ⟨true, op, mk, q⟩ = .ok (some ⟨K, T, 0⟩, some (0, ⟨#[]⟩)) := by
    unfold itemD
    dsimp only
    rw [if_neg (by omega), if_neg (by omega), if_neg (by decide), hK, hT, if_neg (fun h => by rw [hv h.1] at h; cases h.2)]
  exact feed_frame true op mk q M k t (by omega) (by omega) (by
    unfold fitsB
    rcases hk with ⟨rfl, h1, h2⟩ | ⟨h1, h2, rfl⟩
    · have : k ≠ 0 := by omega
      simp [this]
    · rcases h2 with rfl | rfl <;> rfl) (by omega) (some ⟨K, T, 0⟩) _ _ hit
end Go.Proofs.YtnbhgjionpidnaaDoor
