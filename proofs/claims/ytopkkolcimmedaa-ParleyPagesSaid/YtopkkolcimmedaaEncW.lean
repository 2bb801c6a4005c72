/- What the program's Encode is made of: a text and a number put behind a block's bytes; whether a node may stand in a block. Condition: the node's rows lie in memory; the block has room. -/
import Derived.Test.YtopkkolcimmedaaEncM
import Derived.Test.YtopkkolcimmedaaSize
import Derived.Test.YtopkkolcimmedaaInForm
import Derived.Test.YtopkkolcimmedaaTwin
namespace Go.Proofs.Ytopkkolcimmedaa
open Go.RowKit

def checkN (n : NodeM) : Nat := if formB n = false then 4 else if 256 < sizeN n then 2 else 0
theorem below_row {g : Nat} {w : World} (new : Array Value) : Below g w (w.setRow g new) := below_setRow_ (Below.refl _ _) (Nat.le_refl _) _
set_option maxRecDepth 100000 in
theorem appendText_any (g n : Nat) (l : List Nat) (hn : n = l.length) (s : ByteArray) (hs : n + (1 + s.size) ≤ 256) (w : World) (hB : EncW w g l) :
    Calls Try.prog 28 #[.slice (some ⟨g, 0, none⟩) n 256, .string s] w fun e w' => e = .returned (.slice (some ⟨g, 0, none⟩) (n + (1 + s.size)) 256) ∧ EncW w' g (l ++ textN s) ∧ Below g w w' := by
  obtain ⟨i0, hi0, hz0, hz1, hz2⟩ := info_parts info5
  have hT : textN s = [s.size] ++ bytesN s := by unfold textN; rw [Nat.mod_eq_of_lt (by omega)]; rfl
  rw [hT]
  have hg := hB.lt
  have hw1 : EncW (w.alloc (.cells #[.int .u8 (s.size : Int)] 5)) g l := Bk.alloc hB _
  have R1 := Lib.hid (fun ty => run_append_room (P := Try.prog) (w.alloc (.cells #[.int .u8 (s.size : Int)] 5)) 44 ty 5 i0 Try.underlying44 hi0 hz1 g n 256 _ hw1 (EncW.size hw1 (by omega)) (some ⟨w.heap.size, 0, none⟩) 1 1 (u8s [s.size]) rfl (seg_new w _ _) (u8s_one _) (by omega) (by omega))
  have E1 := EncW.more hw1 [s.size] (by simp; omega)
  have B1 : Below g w ((w.alloc (.cells #[.int .u8 (s.size : Int)] 5)).setRow g ((u8s (padB l)).toArray.toList.take l.length ++ u8s [s.size] ++ (u8s (padB l)).toArray.toList.drop (l.length + [s.size].length)).toArray) := below_setRow_ ((Below.refl _ _).alloc (by omega) _) (Nat.le_refl _) _
  obtain ⟨w1, hw⟩ : ∃ w1, w1 = (w.alloc (.cells #[.int .u8 (s.size : Int)] 5)).setRow g ((u8s (padB l)).toArray.toList.take l.length ++ u8s [s.size] ++ (u8s (padB l)).toArray.toList.drop (l.length + [s.size].length)).toArray := ⟨_, rfl⟩
  rw [← hw] at E1 B1
  have R1 : Hid (∀ ty, (Builtin.append_ #[44, 44] ty #[.slice (some ⟨g, 0, none⟩) n 256, .slice (some ⟨w.heap.size, 0, none⟩) 1 1]).run Try.prog (w.alloc (.cells #[.int .u8 (s.size : Int)] 5)) = .ok (.slice (some ⟨g, 0, none⟩) (n + 1) 256) w1) := Lib.hid (fun ty => by rw [hw]; have := R1.out ty; rw [hn] at this ⊢; exact this)
  have R2 := Lib.hid (fun ty => run_append_room_str (P := Try.prog) w1 44 9 ty 5 i0 Try.underlying44 Try.underlying9 hi0 hz1 g (n + 1) 256 _ E1 (EncW.size E1 (by simp; omega)) s (by omega))
  have E2 := Lib.hid (EncW.more E1 (bytesN s) (by simp [bytesN_length]; omega))
  have B1 := Lib.hid B1
  have HN := Lib.hid hn
  clear hB hw1 hw E1 hn hT
  go_enter Try.func28, Try.ntmps28
  go_wp2_with (first | (at_builtin; refine wpList_append_ran rfl _ _ _ _ rfl _ _ rfl rfl _ _ (R1.out _) ?_) | (at_builtin; refine wpList_append_ran rfl _ _ _ _ rfl _ _ rfl rfl _ _ (R2.out _) ?_))
  go_ret
  rw [byteCells_u8s]
  refine ⟨by rw [show n + 1 + s.size = n + (1 + s.size) by omega]; rfl, ?_, B1.out.trans (below_row _)⟩
  have e2 := E2.out
  rw [bytesN_length, List.length_append, ← HN.out] at e2
  simp only [List.length_singleton, List.append_assoc, List.cons_append, List.nil_append] at e2
  exact e2
set_option maxRecDepth 100000 in
theorem appendKid_any (g n : Nat) (l : List Nat) (hn : n = l.length) (k : Int) (h0 : 0 ≤ k) (h1 : k ≤ 2047) (hs : n + 2 ≤ 256) (w : World) (hB : EncW w g l) :
    Calls Try.prog 27 #[.slice (some ⟨g, 0, none⟩) n 256, .int .i64 k] w fun e w' => e = .returned (.slice (some ⟨g, 0, none⟩) (n + 2) 256) ∧ EncW w' g (l ++ kidB k) ∧ Below g w w' := by
  obtain ⟨i0, hi0, hz0, hz1, hz2⟩ := info_parts info5
  have hg := hB.lt
  obtain ⟨x, hx⟩ : ∃ x : Nat, k = (x : Int) := ⟨k.toNat, by omega⟩
  subst hx
  have hk : kidB (x : Int) = [x % 256, x / 256] := by
    unfold kidB
    rw [show ((x : Int) % 256).toNat = x % 256 by omega, show ((x : Int) / 256 % 256).toNat = x / 256 by omega]
  rw [hk]
  have hw1 : EncW (w.alloc (.cells #[.int .u8 ((x : Int) % 256), .int .u8 ((x : Int) / 256)] 5)) g l := Bk.alloc hB _
  have R1 := Lib.hid (fun ty => run_append_room (P := Try.prog) (w.alloc (.cells #[.int .u8 ((x : Int) % 256), .int .u8 ((x : Int) / 256)] 5)) 44 ty 5 i0 Try.underlying44 hi0 hz1 g n 256 _ hw1 (EncW.size hw1 (by omega)) (some ⟨w.heap.size, 0, none⟩) 2 2 (u8s [x % 256, x / 256]) rfl (by simpa [u8s] using seg_two w (.int .u8 ((x : Int) % 256)) (.int .u8 ((x : Int) / 256)) 5) (u8s_one _) (by omega) (by omega))
  have E1 := Lib.hid (EncW.more hw1 [x % 256, x / 256] (by simp; omega))
  have HN := Lib.hid hn
  clear hB hw1 hn hk
  go_enter Try.func27, Try.ntmps27
  go_wp2_with (at_builtin; refine wpList_append_ran rfl _ _ _ _ rfl _ _ rfl rfl _ _ (R1.out _) ?_)
  go_ret
  refine ⟨rfl, ?_, (((Below.refl g w).alloc (by omega) _).trans (below_row _))⟩
  have e1 := E1.out
  rw [← HN.out] at e1
  simp only [List.length_cons, List.length_nil, Nat.zero_add, List.append_assoc] at e1
  exact e1
set_option maxRecDepth 100000 in
theorem check_any (n : NodeM) (A B C : Option Addr) (nk ca nv cb nc cc : Nat) (w : World) (h : Nd w n A B C nk ca nv cb nc cc) (hz : sizeN n ≤ 4611686018427387904) :
    Calls Try.prog 9 #[.agg #[.bool n.leaf, .slice A nk ca, .slice B nv cb, .slice C nc cc]] w fun e w' => e = .returned (.int .i64 (checkN n : Nat)) ∧ Below w.heap.size w w' := by
  have H := Lib.hid h
  have HA := Lib.hid ((Below.refl w.heap.size w).alloc (Nat.le_refl _) (.cells #[.bool n.leaf, .slice A nk ca, .slice B nv cb, .slice C nc cc] 30))
  have HB := Lib.hid (Bk.new w 30 #[.bool n.leaf, .slice A nk ca, .slice B nv cb, .slice C nc cc])
  have C0 := Lib.hid (inform_any n A B C nk ca nv cb nc cc _ (H.out.bel HA.out))
  have WS := Lib.hid (show IntKind.i64.wrap (sizeN n : Nat) = (sizeN n : Nat) by rw [IntKind.wrap_i64]; omega)
  obtain ⟨v, hv⟩ : ∃ v, v = formB n := ⟨_, rfl⟩
  rw [← hv] at C0
  cases v
  · have HR := Lib.hid (show checkN n = 4 by unfold checkN; rw [← hv]; rfl)
    clear h hv
    go_enter Try.func9, Try.ntmps9
    go_wp2_with fail
    refine C0.out.mono ?_
    rintro e w1 ⟨rfl, hb1⟩
    have HA1 := Lib.hid (HA.out.trans (hb1.mono HA.out.size))
    clear hb1
    go_wp2_with fail
    go_ret
    exact ⟨by rw [HR.out]; rfl, HA1.out⟩
  · have HR := Lib.hid (show checkN n = if 256 < sizeN n then 2 else 0 by unfold checkN; rw [← hv]; rfl)
    obtain ⟨s, hs⟩ : ∃ s, s = sizeN n := ⟨_, rfl⟩
    rw [← hs] at HR WS hz
    have HS := Lib.hid hs
    clear h hv hs
    go_enter Try.func9, Try.ntmps9
    go_wp2_with fail
    refine C0.out.mono ?_
    rintro e w1 ⟨rfl, hb1⟩
    have HA1 := Lib.hid (HA.out.trans (hb1.mono HA.out.size))
    have hk := HB.out.bel hb1
    have y0 := hk.cell 0
    have y1 := hk.cell 1
    have y2 := hk.cell 2
    have y3 := hk.cell 3
    have C2 := Lib.hid (size_any n.leaf n.keys n.vals n.kids A B C nk ca nv cb nc cc w1 (H.out.bel HA1.out))
    rw [show (⟨n.leaf, n.keys, n.vals, n.kids⟩ : NodeM) = n from rfl, ← HS.out, WS.out] at C2
    clear hb1 hk
    go_wp2_with fail
    refine C2.out.mono ?_
    rintro e w2 ⟨rfl, hb2⟩
    have HA2 := Lib.hid (HA1.out.trans (hb2.mono HA1.out.size))
    clear hb2 y0 y1 y2 y3
    by_cases h2 : 256 < s
    · rw [if_pos h2] at HR
      go_wp2_with fail
      go_ret
      exact ⟨by rw [HR.out]; rfl, HA2.out⟩
    · rw [if_neg h2] at HR
      go_wp2_with fail
      go_ret
      exact ⟨by rw [HR.out]; rfl, HA2.out⟩
end Go.Proofs.Ytopkkolcimmedaa
