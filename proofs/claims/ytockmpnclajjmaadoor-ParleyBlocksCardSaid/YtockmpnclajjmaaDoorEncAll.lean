/- What framing a block answers, whatever is handed in. Conditions: the payload lies in memory; the table of the cyclic sum is laid. -/
import Derived.Test.YtockmpnclajjmaaDoorEncode
namespace Go.Proofs.YtockmpnclajjmaaDoor
open Go.RowKit

def okN (kind place : Int) : Prop := 0 ≤ kind ∧ kind ≤ 255 ∧ 0 ≤ place ∧ place ≤ 2047
instance (kind place : Int) : Decidable (okN kind place) := inferInstanceAs (Decidable (_ ∧ _ ∧ _ ∧ _))
set_option maxRecDepth 100000 in
set_option maxHeartbeats 1000000 in
theorem encode_no (kind seq place : Int) (A : Option Addr) (n c : Nat) (h : ¬ okN kind place) (w : World) :
    Calls Tryd.prog 5 #[.agg #[.int .i64 kind, .int .u64 seq, .slice A n c], .int .i64 place] w fun e w' => e = .returned (.tuple #[.slice none 0 0, .int .i64 1]) ∧ Below w.heap.size w w' := by
  unfold okN at h
  by_cases h1 : kind < 0
  · clear h
    go_enter Tryd.func5, Tryd.ntmps5
    go_wp2
    go_ret2
    exact ⟨rfl, (Below.refl _ _).alloc (Nat.le_refl _) _⟩
  · by_cases h2 : 255 < kind
    · clear h
      go_enter Tryd.func5, Tryd.ntmps5
      go_wp2
      go_ret2
      exact ⟨rfl, (Below.refl _ _).alloc (Nat.le_refl _) _⟩
    · by_cases h3 : place < 0
      · clear h
        go_enter Tryd.func5, Tryd.ntmps5
        go_wp2
        go_ret2
        exact ⟨rfl, (Below.refl _ _).alloc (Nat.le_refl _) _⟩
      · have h4 : (2048 : Int) ≤ place := by omega
        clear h
        go_enter Tryd.func5, Tryd.ntmps5
        go_wp2
        go_ret2
        exact ⟨rfl, (Below.refl _ _).alloc (Nat.le_refl _) _⟩
set_option maxRecDepth 100000 in
set_option maxHeartbeats 1000000 in
theorem encode_big (kind seq place : Int) (A : Option Addr) (n c : Nat) (h : okN kind place) (hn : 232 < n) (w : World) :
    Calls Tryd.prog 5 #[.agg #[.int .i64 kind, .int .u64 seq, .slice A n c], .int .i64 place] w fun e w' => e = .returned (.tuple #[.slice none 0 0, .int .i64 2]) ∧ Below w.heap.size w w' := by
  obtain ⟨a1, a2, a3, a4⟩ := h
  have h1 : ¬ kind < 0 := by omega
  have h2 : ¬ 255 < kind := by omega
  have h3 : ¬ place < 0 := by omega
  have h4 : ¬ 2048 ≤ place := by omega
  have h5 : (232 : Int) < (n : Int) := by omega
  go_enter Tryd.func5, Tryd.ntmps5
  go_wp2
  go_ret2
  exact ⟨rfl, (Below.refl _ _).alloc (Nat.le_refl _) _⟩

def errN (kind place : Int) (n : Nat) : Int := if okN kind place then (if 232 < n then 2 else 0) else 1
/-- What comes of framing: the block, or an error's number beside nothing. -/
def EncOut (kind : Int) (seq : Nat) (l : List Nat) (place : Int) (w : World) (e : Ending) (w' : World) : Prop :=
  (∃ g k p : Nat, kind = (k : Int) ∧ place = (p : Int) ∧ k < 256 ∧ p < 2048 ∧ l.length ≤ 232 ∧ errN kind place l.length = 0 ∧
    e = .returned (.tuple #[.slice (some ⟨g, 0, none⟩) 256 256, .int .i64 0]) ∧ w.heap.size ≤ g ∧ Bk w' g 5 (u8s (encN k seq l p)).toArray ∧ Below w.heap.size w w') ∨
  (∃ er : Int, errN kind place l.length = er ∧ (er = 1 ∨ er = 2) ∧ e = .returned (.tuple #[.slice none 0 0, .int .i64 er]) ∧ Below w.heap.size w w')
theorem encode_any (kind : Int) (seq : Nat) (place : Int) (A : Option Addr) (n c : Nat) (l : List Nat) (hn : n = l.length) (hs : seq < 18446744073709551616) (w : World) (hA : Seg w A (u8s l)) (hl : ∀ x ∈ l, x < 256) (hT : Tab w) :
    Calls Tryd.prog 5 #[.agg #[.int .i64 kind, .int .u64 seq, .slice A n c], .int .i64 place] w (EncOut kind seq l place w) := by
  by_cases h : okN kind place
  · by_cases h2 : 232 < n
    · refine (encode_big kind seq place A n c h h2 w).mono ?_
      rintro e w' ⟨h3, h4⟩
      exact .inr ⟨2, by unfold errN; rw [if_pos h, if_pos (by omega)], .inr rfl, h3, h4⟩
    · obtain ⟨a1, a2, a3, a4⟩ := id h
      obtain ⟨k, rfl⟩ := Int.eq_ofNat_of_zero_le a1
      obtain ⟨p, rfl⟩ := Int.eq_ofNat_of_zero_le a3
      refine (encode_ok k seq p A n c l hn (by omega) hs (by omega) (by omega) w hA hl hT).mono ?_
      rintro e w' ⟨g, h3, h4, h5, h6⟩
      exact .inl ⟨g, k, p, rfl, rfl, by omega, by omega, by omega, by unfold errN; rw [if_pos h, if_neg (by omega)], h3, h4, h5, h6⟩
  · refine (encode_no kind seq place A n c h w).mono ?_
    rintro e w' ⟨h3, h4⟩
    exact .inr ⟨1, by unfold errN; rw [if_neg h], .inl rfl, h3, h4⟩
end Go.Proofs.YtockmpnclajjmaaDoor
