/- The walk of the statement on pieces of another text: it answers true. Condition: the table of the cyclic sum is laid. -/
import Derived.Test.YthjbkgappjpanaaDoorSBs
namespace Go.Proofs.YthjbkgappjpanaaDoor
open Go.RowKit

/-- A box of whatever pieces. -/
def Bg (w : World) (g : Nat) : Prop := ∃ T sm th dt, Bx w g (bxC T sm th dt)
theorem bg_take (g : Nat) (i t c : Nat) (d : ByteArray) (w : World) (h : Bg w g) (h1 : 1 ≤ t) (h2 : t ≤ 100) (h3 : i < t) (h4 : d.size ≤ 4000) :
    Calls Tryd.prog 11 #[.pointer (some ⟨g, 0, none⟩), .agg #[.int .i64 (i : Int), .int .i64 (t : Int), .int .u32 (c : Int), .string d]] w fun e w' => (∃ b r, e = .returned (.tuple #[.bool b, .int .i64 r])) ∧ Bg w' g ∧ Onl g w w' := by
  obtain ⟨T, sm, th, dt, hx⟩ := h
  by_cases hc : chkOk T sm th dt i t c d = 0
  · refine (take_ok g T sm th dt i t c d w hx h1 h2 h3 h4 hc).mono ?_
    rintro e w' ⟨rfl, hx', ho⟩
    exact ⟨⟨_, _, rfl⟩, ⟨_, _, _, _, hx'⟩, ho⟩
  · refine (take_no g (i : Int) (t : Int) c d w _ hc (fun w' hb => check_good g T sm th dt i t c d w' (hx.bel hb) h1 h2 h3 h4)).mono ?_
    rintro e w' ⟨rfl, hb⟩
    exact ⟨⟨_, _, rfl⟩, ⟨_, _, _, _, hx.bel hb⟩, Onl.of_below hb⟩
theorem bs_first (g : Nat) (s : ByteArray) (z T : Nat) (w : World) (hs : s.size ≤ 4000) (hx : Bx w g (bxC 0 0 (fun _ => false) (fun _ => ⟨#[]⟩))) (hT : T ≤ 100) (hT0 : 0 < T) :
    Calls Tryd.prog 11 #[.pointer (some ⟨g, 0, none⟩), .agg #[.int .i64 0, .int .i64 (T : Int), .int .u32 ((sumN s : Nat) : Int), .string (cutS s z 0)]] w fun e w' => (∃ b, e = .returned (.tuple #[.bool b, .int .i64 0])) ∧ Bs w' g s z T (updT (fun _ => false) 0) ∧ Onl g w w' := by
  have hck : chkOk 0 0 (fun _ => false) (fun _ => ⟨#[]⟩) 0 T (sumN s) (cutS s z 0) = 0 := by unfold chkOk; rw [if_neg (by omega), if_pos rfl]
  refine (take_ok g 0 0 (fun _ => false) (fun _ => ⟨#[]⟩) 0 T (sumN s) (cutS s z 0) w hx (by omega) hT hT0 (cut_le s z 0 hs) hck).mono ?_
  rintro e w' ⟨rfl, hx', ho⟩
  refine ⟨⟨_, rfl⟩, ⟨T, sumN s, _, hx', .inr ⟨rfl, rfl⟩, fun i => ?_, fun i hi => ?_⟩, ho⟩
  · unfold updD; split
    · exact cut_le s z 0 hs
    · exact Nat.zero_le _
  · unfold updD; unfold updT at hi
    by_cases e : i = 0
    · subst e; rw [if_pos rfl]
    · rw [if_neg e] at hi; cases hi
theorem bs_other (g : Nat) (a : ByteArray) (z T : Nat) (th : Nat → Bool) (i t c : Nat) (d : ByteArray) (w : World) (h : Bs w g a z T th) (h0 : th 0 = true) (hT : 0 < T) (hun : t ≠ T ∨ c ≠ sumN a) (h1 : 1 ≤ t) (h2 : t ≤ 100) (h3 : i < t) (h4 : d.size ≤ 4000) :
    Calls Tryd.prog 11 #[.pointer (some ⟨g, 0, none⟩), .agg #[.int .i64 (i : Int), .int .i64 (t : Int), .int .u32 (c : Int), .string d]] w fun e w' => e = .returned (.tuple #[.bool false, .int .i64 4]) ∧ Below w.heap.size w w' := by
  obtain ⟨T', sm, dt, hx, h5, h6, h7⟩ := h
  obtain ⟨rfl, rfl⟩ : T' = T ∧ sm = sumN a := by
    rcases h5 with ⟨_, h8⟩ | h8
    · rw [h8 0] at h0; cases h0
    · exact h8
  have hck : chkOk T' (sumN a) th dt i t c d = 4 := by unfold chkOk; rw [if_pos ⟨hT, hun⟩]
  refine take_no g (i : Int) (t : Int) c d w 4 (by decide) (fun w' hb => ?_)
  have := check_good g T' (sumN a) th dt i t c d w' (hx.bel hb) h1 h2 h3 h4
  rwa [hck] at this
theorem own_le {w : World} {base n c size : Nat} {e : TypeId} {A : Option Addr} {xs : List Value} (h : w.ownsRow base e size (.slice A n c) n xs) : n ≤ c := by
  rcases h.2 with ⟨hv, hn⟩ | ⟨g, cap, cur, hv, _, _, hc, _⟩
  · omega
  · injection hv with _ _ h3; omega
end Go.Proofs.YthjbkgappjpanaaDoor
