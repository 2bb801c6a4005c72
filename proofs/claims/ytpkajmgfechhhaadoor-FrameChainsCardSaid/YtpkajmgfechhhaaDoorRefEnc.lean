/- The walk of the reference's framing. Conditions: the payload lies in memory. -/
import Derived.Test.YtpkajmgfechhhaaDoorEncAll
namespace Go.Proofs.YtpkajmgfechhhaaDoor
open Go.RowKit

set_option maxRecDepth 100000 in
theorem low_any (x n : Nat) (_hx : x < 18446744073709551616) (hn : n ≤ 8) (w : World) :
    Calls Tryd.prog 18 #[.int .u64 x, .int .i64 n] w fun e w' => ∃ A' c', e = .returned (.slice A' n c') ∧ n ≤ c' ∧ Seg w' A' (u8s (leN x n)) ∧ Below w.heap.size w w' := by
  obtain ⟨i0, hi0, hz0, hz1, hz2⟩ := info_parts info5
  have O0 : (w.alloc (.cells #[] 5)).ownsRow w.heap.size 5 1 (.slice (some ⟨w.heap.size, 0, none⟩) 0 0) 0 (u8s (leN x 0)) := World.ownsRow_lit w #[] 0 (by omega) (by decide) rfl
  have HO := Lib.hid O0
  have HB := Lib.hid ((Below.refl w.heap.size w).alloc (Nat.le_refl _) (.cells #[] 5))
  clear O0
  go_enter Tryd.func18, Tryd.ntmps18
  go_wp2
  go_loopw [5, 6] (fun o i wr => ∃ k : Nat, k ≤ n ∧ i = .int .i64 k ∧ wr.ownsRow w.heap.size 5 1 o k (u8s (leN x k)) ∧ Below w.heap.size w wr) (fun _ i _ => n - (intOf i).toNat)
  case atStart => exact ⟨0, by omega, rfl, HO.out, HB.out⟩
  case round =>
    obtain ⟨k, hk, rfl, ho, hb⟩ := hrel
    have HO1 := Lib.hid ho
    have HB1 := Lib.hid hb
    have hz := hb.size
    clear ho hb
    by_cases hlt : k < n
    · have i1 : (0 : Int) ≤ (k : Int) := by omega
      go_wp2_with (at_builtin; refine wpList_append_seg _ rfl _ _ _ rfl w.heap.size 5 i0 _ 1 Tryd.underlying23 hi0 hz0 hz1 hz2 rfl _ k _ rfl (own_alloc HO1.out _) (some ⟨wr.heap.size, 0, none⟩) 1 1 [.int .u8 ((x : Int) / 2 ^ (8 * k) % 256)] rfl rfl (seg_new _ _ _) (by simp [Value.oneCell']) (by simp only [maxLen]; omega) (by omega) (by simp only [World.size_alloc]; omega) ?_; intro v2 w2 hown2 hb2; rw [shr_u64, show u8s (leN x k) ++ [Value.int .u8 ((x / 2 ^ (8 * k) % 256 : Nat) : Int)] = u8s (leN x (k + 1)) by simp [leN, u8s]] at hown2; have O2 := Lib.hid hown2; have B2 := Lib.hid ((HB1.out.alloc hz (.cells #[.int .u8 ((x : Int) / 2 ^ (8 * k) % 256)] 5)).trans hb2); clear hown2 hb2)
      go_roundw
      case rel => exact ⟨k + 1, by omega, by go_num, O2.out, B2.out⟩
      case measure => simp [intOf]; omega
    · obtain rfl : k = n := by omega
      obtain ⟨A, c, rfl, hc, hs⟩ := own_shape HO1.out
      have HS := Lib.hid hs
      clear hs
      go_wp2
      go_ret
      exact ⟨A, c, rfl, hc, HS.out, HB1.out⟩
theorem rep_more (l : List Nat) (k n : Nat) (h : n ≤ k) : u8s (List.replicate 4 0 ++ (l ++ List.replicate (k - n) 0)) ++ [Value.int .u8 0] = u8s (List.replicate 4 0 ++ (l ++ List.replicate (k + 1 - n) 0)) := by
  have e : List.replicate (k - n + 1) 0 = List.replicate (k - n) 0 ++ [0] := List.replicate_succ'
  rw [show k + 1 - n = (k - n) + 1 by omega, e]
  show u8s (List.replicate 4 0 ++ (l ++ List.replicate (k - n) 0)) ++ u8s [0] = _
  rw [← u8s_append]
  simp only [List.append_assoc]
theorem own_bel {w w' : World} {base : Nat} {e : TypeId} {v : Value} {n : Nat} {xs : List Value} (h : w.ownsRow base e 1 v n xs) (hb : Below w.heap.size w w') : w'.ownsRow base e 1 v n xs := by
  refine ⟨h.1, ?_⟩
  rcases h.2 with hn | ⟨g, cap, cur, rfl, hg, hgg, rest⟩
  · exact .inl hn
  · refine .inr ⟨g, cap, cur, rfl, hg, ?_, rest⟩
    rw [hb.block g (Array.getElem?_eq_some_iff.1 hgg).1]
    exact hgg
/-- What stands in memory while the reference frames a block. -/
structure RfW (w : World) (box : Array Value) (w' : World) : Prop where
  box : Bk w' w.heap.size 30 box
  bel : Below w.heap.size w w'
  lt : w.heap.size + 1 ≤ w'.heap.size
section
variable {w w' w'' : World} {box : Array Value}
theorem RfW.step (h : RfW w box w') (hb : Below (w.heap.size + 1) w' w'') : RfW w box w'' :=
  ⟨h.box.below hb (by omega), h.bel.trans (hb.mono (by omega)), Nat.le_trans h.lt hb.size⟩
theorem RfW.call (h : RfW w box w') (hb : Below w'.heap.size w' w'') : RfW w box w'' := h.step (hb.mono h.lt)
theorem RfW.cells {x y z : Value} (h : RfW w #[x, y, z] w') : w'.cell? ⟨w.heap.size, 0, none⟩ = some x ∧ w'.cell? ⟨w.heap.size, 1, none⟩ = some y ∧ w'.cell? ⟨w.heap.size, 2, none⟩ = some z :=
  ⟨h.box.cell 0, h.box.cell 1, h.box.cell 2⟩
end
def lenOf : Value → Nat
  | .slice _ n _ => n
  | _ => 0
theorem seg_four (w : World) (a b c d : Value) (e : TypeId) : Seg (w.alloc (.cells #[a, b, c, d] e)) (some ⟨w.heap.size, 0, none⟩) [a, b, c, d] :=
  Seg.of_block (heap_alloc_new w _) (by
    intro i hi
    match i, hi with
    | 0, _ => rfl
    | 1, _ => rfl
    | 2, _ => rfl
    | 3, _ => rfl)

set_option maxRecDepth 100000 in
set_option maxHeartbeats 4000000 in
theorem refenc_ok (kind seq place : Nat) (A : Option Addr) (n c : Nat) (l : List Nat) (hn : n = l.length) (hk : kind < 256) (hs : seq < 18446744073709551616) (hp : place < 2048) (h232 : n ≤ 232) (w : World) (hA : Seg w A (u8s l)) (hl : ∀ x ∈ l, x < 256) :
    Calls Tryd.prog 11 #[.agg #[.int .i64 kind, .int .u64 seq, .slice A n c], .int .i64 place] w fun e w' => ∃ A' c', e = .returned (.tuple #[.slice A' 256 c', .int .i64 0]) ∧ 256 ≤ c' ∧ Seg w' A' (u8s (encN kind seq l place)) ∧ Below w.heap.size w w' := by
  obtain ⟨i0, hi0, hz0, hz1, hz2⟩ := info_parts info5
  have H1 : RfW w #[.int .i64 (kind : Int), .int .u64 (seq : Int), .slice A n c] ((w.alloc (.cells #[.int .i64 kind, .int .u64 seq, .slice A n c] 30)).alloc (.cells #[.int .u8 80, .int .u8 98, .int .u8 (kind : Int), .int .u8 1] 5)) :=
    ⟨(Bk.new w _ _).alloc _, ((Below.refl _ _).alloc (Nat.le_refl _) _).alloc (by simp) _, by simp⟩
  have O1 : ((w.alloc (.cells #[.int .i64 kind, .int .u64 seq, .slice A n c] 30)).alloc (.cells #[.int .u8 80, .int .u8 98, .int .u8 (kind : Int), .int .u8 1] 5)).ownsRow (w.heap.size + 1) 5 1 (.slice (some ⟨w.heap.size + 1, 0, none⟩) 4 4) 4 (u8s [80, 98, kind, 1]) := by
    have := World.ownsRow_lit (base := w.heap.size + 1) (e := 5) (size := 1) (w.alloc (.cells #[.int .i64 kind, .int .u64 seq, .slice A n c] 30)) #[.int .u8 80, .int .u8 98, .int .u8 (kind : Int), .int .u8 1] 4 (by simp) (by decide) rfl
    rwa [World.size_alloc] at this
  have HN := Lib.hid hn
  have HA := Lib.hid hA
  have HL := Lib.hid hl
  clear hn hA hl
  have i1 : ¬ (2047 : Int) < (place : Int) := by omega
  have i2 : ¬ (255 : Int) < (kind : Int) := by omega
  have i3 : ¬ (232 : Int) < (n : Int) := by omega
  have i4 : ¬ (kind : Int) < 0 := by omega
  have i5 : ¬ (place : Int) < 0 := by omega
  have i6 : (kind : Int) % 256 = kind := by omega
  have J1 := Lib.hid H1
  have P1 := Lib.hid O1
  clear H1 O1
  go_enter Tryd.func11, Tryd.ntmps11
  go_wp2_with fail
  generalize (w.alloc (.cells #[.int .i64 kind, .int .u64 seq, .slice A n c] 30)).alloc (.cells #[.int .u8 80, .int .u8 98, .int .u8 (kind : Int), .int .u8 1] 5) = w1 at *
  refine (low_any n 2 (by omega) (by omega) w1).mono ?_
  rintro e w2 ⟨A2, c2, rfl, hc2, s2, b2⟩
  have J2 := Lib.hid (J1.out.call b2)
  have P2 := Lib.hid (own_bel P1.out b2)
  have S2 := Lib.hid s2
  clear b2 s2
  go_wp2_with (at_builtin; refine wpList_append_seg _ rfl _ _ _ rfl (w.heap.size + 1) 5 i0 _ 1 Tryd.underlying23 hi0 hz0 hz1 hz2 rfl _ 4 _ rfl P2.out A2 2 c2 (u8s (leN n 2)) rfl (by rw [u8s_length, leN_length]) S2.out (u8s_one _) (by simp only [maxLen]; omega) (by omega) J2.out.lt ?_; intro v3 w3 hown hb; rw [← u8s_append] at hown; have P3 := Lib.hid hown; have J3 := Lib.hid (J2.out.step hb); clear hown hb)
  refine (low_any place 2 (by omega) (by omega) w3).mono ?_
  rintro e w4 ⟨A4, c4, rfl, hc4, s4, b4⟩
  have J4 := Lib.hid (J3.out.call b4)
  have P4 := Lib.hid (own_bel P3.out b4)
  have S4 := Lib.hid s4
  clear b4 s4
  go_wp2_with (at_builtin; refine wpList_append_seg _ rfl _ _ _ rfl (w.heap.size + 1) 5 i0 _ 1 Tryd.underlying23 hi0 hz0 hz1 hz2 rfl _ 6 _ rfl P4.out A4 2 c4 (u8s (leN place 2)) rfl (by rw [u8s_length, leN_length]) S4.out (u8s_one _) (by simp only [maxLen]; omega) (by omega) J4.out.lt ?_; intro v5 w5 hown hb; rw [← u8s_append] at hown; have P5 := Lib.hid hown; have J5 := Lib.hid (J4.out.step hb); obtain ⟨y0, y1, y2⟩ := J5.out.cells; clear hown hb)
  refine (low_any seq 8 hs (by omega) w5).mono ?_
  rintro e w6 ⟨A6, c6, rfl, hc6, s6, b6⟩
  have J6 := Lib.hid (J5.out.call b6)
  have P6 := Lib.hid (own_bel P5.out b6)
  have S6 := Lib.hid s6
  clear b6 s6 y0 y1 y2
  obtain ⟨F, hF⟩ : ∃ F, F = frontN kind n place seq := ⟨_, rfl⟩
  have HF := Lib.hid hF
  have HFl := Lib.hid (show F.length = 16 by rw [hF]; exact frontN_length _ _ _ _)
  have HFlt := Lib.hid (show ∀ x ∈ F, x < 256 by rw [hF]; exact frontN_lt _ _ _ _ hk)
  have HFe := Lib.hid (show [80, 98, kind, 1] ++ leN n 2 ++ leN place 2 ++ leN seq 8 = F by rw [hF]; rfl)
  clear hF
  go_wp2_with (at_builtin; first
    | (refine wpList_append_seg _ rfl _ _ _ rfl (w.heap.size + 1) 5 i0 _ 1 Tryd.underlying23 hi0 hz0 hz1 hz2 rfl _ 8 _ rfl P6.out A6 8 c6 (u8s (leN seq 8)) rfl (by rw [u8s_length, leN_length]) S6.out (u8s_one _) (by simp only [maxLen]; omega) (by omega) J6.out.lt ?_; intro v7 w7 hown hb; rw [← u8s_append, HFe.out] at hown; obtain ⟨A7, c7, rfl, hc7, s7⟩ := own_shape hown; have S7 := Lib.hid s7; have J7 := Lib.hid (J6.out.step hb); have J7a := Lib.hid (J7.out.call ((Below.refl _ _).alloc (Nat.le_refl _) (.cells #[.int .u8 0, .int .u8 0, .int .u8 0, .int .u8 0] 5))); obtain ⟨y0, y1, y2⟩ := J7a.out.cells; clear s7; clear hown hb)
    | (refine wpList_append_seg _ rfl _ _ _ rfl w7.heap.size 5 i0 _ 1 Tryd.underlying23 hi0 hz0 hz1 hz2 rfl _ 4 _ rfl (World.ownsRow_lit w7 #[.int .u8 0, .int .u8 0, .int .u8 0, .int .u8 0] 4 (by omega) (by decide) rfl) A n c (u8s l) rfl (by rw [u8s_length, HN.out]) (HA.out.bel J7a.out.bel) (u8s_one _) (by simp only [maxLen]; omega) (by omega) (by simp) ?_; intro v8 w8 hown hb; have P8 := Lib.hid hown; have BB8 := Lib.hid (((Below.refl w7.heap.size w7).alloc (Nat.le_refl _) (.cells #[.int .u8 0, .int .u8 0, .int .u8 0, .int .u8 0] 5)).trans hb); clear hown hb))
  have P8' := Lib.hid (show w8.ownsRow w7.heap.size 5 1 v8 (4 + n) (u8s (List.replicate 4 0 ++ (l ++ List.replicate (n - n) 0))) by
    have := P8.out
    rw [show (#[Value.int .u8 0, .int .u8 0, .int .u8 0, .int .u8 0] : Array Value).toList ++ u8s l = u8s (List.replicate 4 0 ++ (l ++ List.replicate (n - n) 0)) by simp [u8s]] at this
    exact this)
  clear P8 y0 y1 y2
  have z8 := BB8.out.size
  go_loopw [7] (fun bk wr => ∃ k : Nat, n ≤ k ∧ k ≤ 232 ∧ wr.ownsRow w7.heap.size 5 1 bk (4 + k) (u8s (List.replicate 4 0 ++ (l ++ List.replicate (k - n) 0))) ∧ Below w7.heap.size w7 wr) (fun bk _ => 236 - lenOf bk)
  case atStart => exact ⟨n, by omega, by omega, P8'.out, BB8.out⟩
  case round =>
    obtain ⟨k, hk1, hk2, ho, hb⟩ := hrel
    have HO := Lib.hid ho
    have HB := Lib.hid hb
    have zr := hb.size
    obtain ⟨AB, cB, rfl, hcB, sB⟩ := own_shape ho
    have SB := Lib.hid sB
    clear ho hb sB
    by_cases hlt : k < 232
    · have j1 : (4 : Int) + (k : Int) < 236 := by omega
      have x0 : IntKind.i64.wrap (4 + (k : Int)) = 4 + (k : Int) := IntWalk.i64_in _ (by omega)
      go_wp2_with (at_builtin; refine wpList_append_seg _ rfl _ _ _ rfl w7.heap.size 5 i0 _ 1 Tryd.underlying23 hi0 hz0 hz1 hz2 rfl _ (4 + k) _ rfl (own_alloc HO.out _) (some ⟨wr.heap.size, 0, none⟩) 1 1 [.int .u8 0] rfl rfl (seg_new _ _ _) (by simp [Value.oneCell']) (by simp only [maxLen]; omega) (by omega) (by simp only [World.size_alloc]; omega) ?_; intro v10 w10 hown hb; rw [show u8s (List.replicate 4 0 ++ (l ++ List.replicate (k - n) 0)) ++ [Value.int .u8 0] = u8s (List.replicate 4 0 ++ (l ++ List.replicate (k + 1 - n) 0)) from rep_more l k n hk1] at hown; have O10 := Lib.hid hown; have B10 := Lib.hid ((HB.out.alloc zr (.cells #[.int .u8 0] 5)).trans hb); clear hown hb)
      obtain ⟨A10, c10, rfl, hc10, _⟩ := own_shape O10.out
      go_roundw
      case rel => exact ⟨k + 1, by omega, by omega, O10.out, B10.out⟩
      case measure => simp [lenOf]; omega
    · obtain rfl : k = 232 := by omega
      have j1 : ¬ ((4 : Int) + ((232 : Nat) : Int) < 236) := by omega
      have J9 := Lib.hid (J7.out.call HB.out)
      have S9 := Lib.hid (S7.out.bel HB.out)
      have HBk := Lib.hid (show List.replicate 4 0 ++ (l ++ List.replicate (232 - n) 0) = backN l by rw [HN.out]; simp only [backN, List.append_assoc]; rfl)
      have HBl := Lib.hid (show (backN l).length = 236 from backN_length l (by rw [← HN.out]; omega))
      rw [HBk.out] at SB
      have HFl2 := HFl.out
      have HAl := Lib.hid (show ∀ x ∈ F ++ [0, 0, 0, 0] ++ backN l, x < 256 from lt_append (lt_append HFlt.out (by decide)) (backN_lt l HL.out))
      have HAn := Lib.hid (show 256 = (F ++ [0, 0, 0, 0] ++ backN l).length by rw [List.length_append, List.length_append, HFl.out, HBl.out]; rfl)
      obtain ⟨SU, hSU⟩ : ∃ SU, SU = 4294967295 - crcRef (F ++ [0, 0, 0, 0] ++ backN l) := ⟨_, rfl⟩
      have hSUl : SU < 18446744073709551616 := by omega
      have HSU := Lib.hid hSU
      have HEnc := Lib.hid (show F ++ leN SU 4 ++ backN l = encN kind seq l place by
        rw [hSU, ← crc_eq _ HAl.out, HF.out, HN.out]; rfl)
      have HRC := Lib.hid (fun (A : Option Addr) (c : Nat) (w' : World) (h : Seg w' A (u8s (F ++ [0, 0, 0, 0] ++ backN l))) => show Calls Tryd.prog 19 #[.slice A 256 c] w' (fun e w'' => e = .returned (.int .u32 (SU : Int)) ∧ w' = w'') from
        (refcrc_any A 256 c (F ++ [0, 0, 0, 0] ++ backN l) HAn.out w' h HAl.out (by omega)).mono fun e w'' ⟨h1, h2⟩ => ⟨by rw [h1, ← hSU], h2⟩)
      clear hSU HFl2
      go_wp2_with (first
        | (at_builtin; first
          | (refine wpList_append_seg _ rfl _ _ _ rfl wr.heap.size 5 i0 _ 1 Tryd.underlying23 hi0 hz0 hz1 hz2 rfl _ 0 _ rfl (World.ownsRow_lit wr #[] 0 (by omega) (by decide) rfl) A7 16 c7 (u8s F) rfl (by rw [u8s_length, HFl.out]) (S9.out.bel ((Below.refl _ _).alloc (Nat.le_refl _) _)) (u8s_one _) (by simp only [maxLen]; omega) (by omega) (by simp) ?_; intro v11 w11 hown hb; simp only [List.nil_append] at hown; have O11 := Lib.hid hown; have B11 := Lib.hid (((Below.refl wr.heap.size wr).alloc (Nat.le_refl _) (.cells #[] 5)).trans hb); have z11 := B11.out.size; clear hown hb)
          | (refine wpList_append_seg _ rfl _ _ _ rfl wr.heap.size 5 i0 _ 1 Tryd.underlying23 hi0 hz0 hz1 hz2 rfl _ 16 _ rfl (own_alloc O11.out _) (some ⟨w11.heap.size, 0, none⟩) 4 4 [.int .u8 0, .int .u8 0, .int .u8 0, .int .u8 0] rfl rfl (seg_four _ _ _ _ _ _) (by simp [Value.oneCell']) (by simp only [maxLen]; omega) (by omega) (by simp only [World.size_alloc]; omega) ?_; intro v12 w12 hown hb; rw [show u8s F ++ [Value.int .u8 0, .int .u8 0, .int .u8 0, .int .u8 0] = u8s (F ++ [0, 0, 0, 0]) by simp [u8s]] at hown; have O12 := Lib.hid hown; have B12 := Lib.hid ((B11.out.alloc z11 (.cells #[.int .u8 0, .int .u8 0, .int .u8 0, .int .u8 0] 5)).trans hb); have z12 := B12.out.size; clear hown hb)
          | (refine wpList_append_seg _ rfl _ _ _ rfl wr.heap.size 5 i0 _ 1 Tryd.underlying23 hi0 hz0 hz1 hz2 rfl _ 20 _ rfl O12.out AB 236 cB (u8s (backN l)) rfl (by rw [u8s_length, HBl.out]) (SB.out.bel B12.out) (u8s_one _) (by simp only [maxLen]; omega) (by omega) z12 ?_; intro v13 w13 hown hb; rw [← u8s_append] at hown; obtain ⟨A13, c13, rfl, hc13, s13⟩ := own_shape hown; have S13 := Lib.hid s13; have B13 := Lib.hid (B12.out.trans hb); have J13 := Lib.hid (J9.out.call B13.out); have S13b := Lib.hid (SB.out.bel B13.out); have S13f := Lib.hid (S9.out.bel B13.out); clear s13; clear hown hb)
          | (refine wpList_append_seg _ rfl _ _ _ rfl w13.heap.size 5 i0 _ 1 Tryd.underlying23 hi0 hz0 hz1 hz2 rfl _ 0 _ rfl (World.ownsRow_lit w13 #[] 0 (by omega) (by decide) rfl) A7 16 c7 (u8s F) rfl (by rw [u8s_length, HFl.out]) (S13f.out.bel ((Below.refl _ _).alloc (Nat.le_refl _) _)) (u8s_one _) (by simp only [maxLen]; omega) (by omega) (by simp) ?_; intro v14 w14 hown hb; simp only [List.nil_append] at hown; have O14 := Lib.hid hown; have B14 := Lib.hid (((Below.refl w13.heap.size w13).alloc (Nat.le_refl _) (.cells #[] 5)).trans hb); have z14 := B14.out.size; clear hown hb)
          | (refine wpList_append_seg _ rfl _ _ _ rfl w13.heap.size 5 i0 _ 1 Tryd.underlying23 hi0 hz0 hz1 hz2 rfl _ 16 _ rfl O15.out A15 4 c15 (u8s (leN SU 4)) rfl (by rw [u8s_length, leN_length]) S15.out (u8s_one _) (by simp only [maxLen]; omega) (by omega) z15 ?_; intro v16 w16 hown hb; rw [← u8s_append] at hown; have O16 := Lib.hid hown; have B16 := Lib.hid (B15.out.trans hb); have z16 := B16.out.size; clear hown hb)
          | (refine wpList_append_seg _ rfl _ _ _ rfl w13.heap.size 5 i0 _ 1 Tryd.underlying23 hi0 hz0 hz1 hz2 rfl _ 20 _ rfl O16.out AB 236 cB (u8s (backN l)) rfl (by rw [u8s_length, HBl.out]) (S13b.out.bel B16.out) (u8s_one _) (by simp only [maxLen]; omega) (by omega) z16 ?_; intro v17 w17 hown hb; rw [← u8s_append] at hown; obtain ⟨A17, c17, rfl, hc17, s17⟩ := own_shape hown; have S17 := Lib.hid s17; have B17 := Lib.hid (J13.out.bel.trans ((B16.out.trans hb).mono J13.out.bel.size)); clear s17; clear hown hb))
        | (go_at_call 19; refine (HRC.out _ _ _ (S13.out.bel B14.out)).mono ?_; rintro e w' ⟨rfl, rfl⟩)
        | (go_at_call 18; refine (low_any SU 4 hSUl (by omega) _).mono ?_; rintro e w15 ⟨A15, c15, rfl, hc15, s15, b15⟩; have S15 := Lib.hid s15; have O15 := Lib.hid (own_bel O14.out b15); have B15 := Lib.hid (below_step B14.out b15); have z15 := B15.out.size; clear s15 b15))
      rw [HEnc.out] at S17
      go_ret2
      exact ⟨A17, c17, rfl, hc17, S17.out, B17.out⟩

set_option maxRecDepth 100000 in
set_option maxHeartbeats 1000000 in
theorem refenc_no (kind seq place : Int) (A : Option Addr) (n c : Nat) (h : ¬ okN kind place) (w : World) :
    Calls Tryd.prog 11 #[.agg #[.int .i64 kind, .int .u64 seq, .slice A n c], .int .i64 place] w fun e w' => e = .returned (.tuple #[.slice none 0 0, .int .i64 1]) ∧ Below w.heap.size w w' := by
  unfold okN at h
  by_cases h1 : kind < 0
  · clear h
    go_enter Tryd.func11, Tryd.ntmps11
    go_wp2
    go_ret2
    exact ⟨rfl, (Below.refl _ _).alloc (Nat.le_refl _) _⟩
  · by_cases h2 : 255 < kind
    · clear h
      go_enter Tryd.func11, Tryd.ntmps11
      go_wp2
      go_ret2
      exact ⟨rfl, (Below.refl _ _).alloc (Nat.le_refl _) _⟩
    · by_cases h3 : place < 0
      · clear h
        go_enter Tryd.func11, Tryd.ntmps11
        go_wp2
        go_ret2
        exact ⟨rfl, (Below.refl _ _).alloc (Nat.le_refl _) _⟩
      · have h4 : (2047 : Int) < place := by omega
        clear h
        go_enter Tryd.func11, Tryd.ntmps11
        go_wp2
        go_ret2
        exact ⟨rfl, (Below.refl _ _).alloc (Nat.le_refl _) _⟩
set_option maxRecDepth 100000 in
set_option maxHeartbeats 1000000 in
theorem refenc_big (kind seq place : Int) (A : Option Addr) (n c : Nat) (h : okN kind place) (hn : 232 < n) (w : World) :
    Calls Tryd.prog 11 #[.agg #[.int .i64 kind, .int .u64 seq, .slice A n c], .int .i64 place] w fun e w' => e = .returned (.tuple #[.slice none 0 0, .int .i64 2]) ∧ Below w.heap.size w w' := by
  obtain ⟨a1, a2, a3, a4⟩ := h
  have h1 : ¬ kind < 0 := by omega
  have h2 : ¬ 255 < kind := by omega
  have h3 : ¬ place < 0 := by omega
  have h4 : ¬ 2047 < place := by omega
  have h5 : (232 : Int) < (n : Int) := by omega
  go_enter Tryd.func11, Tryd.ntmps11
  go_wp2
  go_ret2
  exact ⟨rfl, (Below.refl _ _).alloc (Nat.le_refl _) _⟩
def RefOut (kind : Int) (seq : Nat) (l : List Nat) (place : Int) (A : Option Addr) (m : Nat) (w' : World) : Prop :=
  (∃ k p : Nat, kind = (k : Int) ∧ place = (p : Int) ∧ errN kind place l.length = 0 ∧ m = 256 ∧ Seg w' A (u8s (encN k seq l p))) ∨ (errN kind place l.length ≠ 0 ∧ A = none ∧ m = 0)
theorem refenc_res (kind : Int) (seq : Nat) (place : Int) (A : Option Addr) (n c : Nat) (l : List Nat) (hn : n = l.length) (hs : seq < 18446744073709551616) (w : World) (hA : Seg w A (u8s l)) (hl : ∀ x ∈ l, x < 256) :
    Calls Tryd.prog 11 #[.agg #[.int .i64 kind, .int .u64 seq, .slice A n c], .int .i64 place] w fun e w' => ∃ A' m' c', e = .returned (.tuple #[.slice A' m' c', .int .i64 (errN kind place l.length)]) ∧ RefOut kind seq l place A' m' w' ∧ Below w.heap.size w w' := by
  by_cases h : okN kind place
  · by_cases h2 : 232 < n
    · refine (refenc_big kind seq place A n c h h2 w).mono ?_
      rintro e w' ⟨rfl, hb⟩
      have he : errN kind place l.length = 2 := by unfold errN; rw [if_pos h, if_pos (by omega)]
      exact ⟨none, 0, 0, by rw [he], .inr ⟨by rw [he]; decide, rfl, rfl⟩, hb⟩
    · obtain ⟨a1, a2, a3, a4⟩ := id h
      obtain ⟨k, rfl⟩ := Int.eq_ofNat_of_zero_le a1
      obtain ⟨p, rfl⟩ := Int.eq_ofNat_of_zero_le a3
      refine (refenc_ok k seq p A n c l hn (by omega) hs (by omega) (by omega) w hA hl).mono ?_
      rintro e w' ⟨A', c', rfl, _, hS, hb⟩
      have he : errN (k : Int) (p : Int) l.length = 0 := by unfold errN; rw [if_pos h, if_neg (by omega)]
      exact ⟨A', 256, c', by rw [he], .inl ⟨k, p, rfl, rfl, he, rfl, hS⟩, hb⟩
  · refine (refenc_no kind seq place A n c h w).mono ?_
    rintro e w' ⟨rfl, hb⟩
    have he : errN kind place l.length = 1 := by unfold errN; rw [if_neg h]
    exact ⟨none, 0, 0, by rw [he], .inr ⟨by rw [he]; decide, rfl, rfl⟩, hb⟩
end Go.Proofs.YtpkajmgfechhhaaDoor
