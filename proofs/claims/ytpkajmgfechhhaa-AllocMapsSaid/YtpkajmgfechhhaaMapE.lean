/- The walks of the statements' helpers on maps: a map made of bytes, runs told, the answers that the document fixes. Conditions: the bytes lie in memory. -/
import Derived.Test.YtpkajmgfechhhaaMapD
namespace Go.Proofs.Ytpkajmgfechhhaa
open Go.RowKit

set_option maxRecDepth 100000 in
set_option maxHeartbeats 1000000 in
theorem of_map (T : Int) (A : Option Addr) (n c : Nat) (l : List Nat) (hn : n = l.length) (hz : n ≤ 140737488355000) (w : World) (hA : Seg w A (u8s l)) :
    Calls Try.prog 9 #[.int .i64 T, .slice A n c] w fun e w' => ∃ A' c', e = .returned (.agg #[.int .i64 T, .slice A' n c']) ∧ n ≤ c' ∧ Seg w' A' (u8s l) ∧ Below w.heap.size w w' := by
  obtain ⟨i0, hi0, hz0, hz1, hz2⟩ := info_parts info5
  have HN := Lib.hid hn
  have hb := (Below.refl w.heap.size w).alloc (Nat.le_refl _) (.cells #[.int .i64 0, .slice none 0 0] 27)
  have HB := Lib.hid hb
  have HS := Lib.hid (hA.bel hb)
  have BR := Lib.hid (Bk.new w 27 #[.int .i64 0, .slice none 0 0])
  have HZ := Lib.hid (show (w.alloc (.cells #[.int .i64 0, .slice none 0 0] 27)).heap.size = w.heap.size + 1 by simp)
  have O0 := Lib.hid (World.ownsRow_lit (base := w.heap.size + 1) (e := 5) (size := 1) (w.alloc (.cells #[.int .i64 0, .slice none 0 0] 27)) #[] 0 (by simp) (by decide) rfl)
  rw [World.size_alloc] at O0
  clear hn hA hb
  go_enter Try.func9, Try.ntmps9
  go_wp2_with (at_builtin; refine wpList_append_seg _ rfl _ _ _ rfl (w.heap.size + 1) 5 i0 _ 1 Try.underlying22 hi0 hz0 hz1 hz2 rfl _ 0 _ rfl O0.out A n c (u8s l) rfl (by rw [u8s_length, HN.out]) (HS.out.bel ((Below.refl _ _).alloc (Nat.le_refl _) _)) (u8s_one _) (by simp only [maxLen]; omega) (by omega) (by simp) ?_; intro v1 w1 hown1 hb1; simp only [Nat.zero_add, List.nil_append] at hown1; obtain ⟨A1, c1, rfl, hc1, s1⟩ := own_shape hown1; have S1 := Lib.hid s1; have F1 := Lib.hid (own_fresh hown1); have B1 := Lib.hid (show Below w.heap.size w w1 from (HB.out.alloc HB.out.size (.cells #[] 5)).trans (hb1.mono (by omega))); have r1 := BR.out.alloc (.cells #[] 5); have r2 := r1.below hb1 (by omega); have y0 := r2.cell 0; have y1 := r2.cell 1; have f0 := r2.frozen 0; have f1 := r2.frozen 1; clear hown1 hb1 s1 r1 r2)
  exact bodyPost_ret (v := .agg #[.int .i64 T, .slice A1 n c1]) (by simp [results, Try.results9, go_sem, y0, y1]) rfl
    ⟨A1, c1, rfl, hc1, (S1.out.far (fun a ha => by have := F1.out a ha; omega) 0 _).far (fun a ha => by have := F1.out a ha; omega) 1 _, (B1.out.setCell (p := ⟨w.heap.size, 0, none⟩) (Nat.le_refl _) _).setCell (p := ⟨w.heap.size, 1, none⟩) (Nat.le_refl _) _⟩
set_option maxRecDepth 100000 in
theorem runs_ok (T : Nat) (f : Nat → Bool) (A : Option Addr) (n c : Nat) (w : World) (h : MapIn w T f A n c) :
    Calls Try.prog 11 #[.agg #[.int .i64 (T : Int), .slice A n c]] w fun e w' => ∃ v, e = .returned (.tuple #[v, .int .i64 0]) ∧ w'.ownsRow w.heap.size 45 2 v (runsN f T).length (prs (runsN f T)) ∧ Below w.heap.size w w' := by
  have hb := (Below.refl w.heap.size w).alloc (Nat.le_refl _) (.cells #[.int .i64 (T : Int), .slice A n c] 27)
  have HB := Lib.hid hb
  have HM := Lib.hid (h.bel hb)
  have BX := Lib.hid (Bk.new w 27 #[.int .i64 (T : Int), .slice A n c])
  clear h hb
  go_enter Try.func11, Try.ntmps11
  go_wp2_with fail
  refine (HM.out.check).mono ?_
  rintro e w2 ⟨rfl, b2⟩
  have B2 := Lib.hid (below_step HB.out b2)
  have M2 := Lib.hid (HM.out.bel b2)
  have z0 := (BX.out.bel b2).cell 0
  have z1 := (BX.out.bel b2).cell 1
  clear b2
  go_wp2_with fail
  refine (mruns_any T f A n c _ M2.out).mono ?_
  rintro e w3 ⟨v, rfl, o3, b3⟩
  have B3 := Lib.hid (below_step B2.out b3)
  have O3 := Lib.hid o3
  clear b3 o3 z0 z1
  go_wp2_with fail
  go_ret2
  exact ⟨v, rfl, own_le O3.out B2.out.size, B3.out⟩
set_option maxRecDepth 100000 in
theorem runs_no (T : Int) (A : Option Addr) (n c E : Nat) (l : List Nat) (hn : n = l.length) (hz : n ≤ 140737488355000) (hl : ∀ x ∈ l, x < 256) (w : World) (hS : Seg w A (u8s l)) (hE : chk T l = E) (h0 : E ≠ 0) :
    Calls Try.prog 11 #[.agg #[.int .i64 T, .slice A n c]] w fun e w' => e = .returned (.tuple #[.slice none 0 0, .int .i64 (E : Int)]) ∧ Below w.heap.size w w' := by
  have hb := (Below.refl w.heap.size w).alloc (Nat.le_refl _) (.cells #[.int .i64 T, .slice A n c] 27)
  have HB := Lib.hid hb
  have HC := Lib.hid (check_any T A n c l hn hz hl _ (hS.bel hb))
  rw [hE] at HC
  have hle := chk_le T l
  rw [hE] at hle
  have hne : ((E : Int) != 0) = true := by rw [bne_iff_ne]; omega
  clear hb hn hl hS hE
  go_enter Try.func11, Try.ntmps11
  go_wp2_with fail
  refine (HC.out).mono ?_
  rintro e w2 ⟨rfl, b2⟩
  have B2 := Lib.hid (below_step HB.out b2)
  clear b2
  go_wp2_with fail
  go_ret2
  exact ⟨rfl, B2.out⟩
/-- A map that is in form, known by its bytes. -/
theorem MapIn.of_chk {w : World} {T : Int} {A : Option Addr} {n c : Nat} {l : List Nat} (hn : n = l.length) (hc : n ≤ c) (hl : ∀ x ∈ l, x < 256) (hS : Seg w A (u8s l)) (h : chk T l = 0) : MapIn w T.toNat (fOf T.toNat l) A n c ∧ ((T.toNat : Nat) : Int) = T := by
  obtain ⟨h0, h1, h2, h3⟩ := chk_pk T l hl h
  refine ⟨⟨by omega, by omega, fOf_flat _ _, ?_, hc⟩, by omega⟩
  rw [hn, ← h3]
  exact hS
def fA : Nat → Bool := fOf 10 [19, 0]
theorem fA_ok : chk ((10 : Nat) : Int) [19, 0] = 0 := by decide +kernel
theorem fA_frees : 3 ≤ (frees fA 10).length := by decide +kernel
theorem fA_take : ∀ i : Fin 11, (frees fA i.val).length = 3 → frees fA i.val = [2, 3, 5] ∧ byteOf (fillTo fA i.val) 0 = 63 := by decide +kernel
set_option maxRecDepth 100000 in
set_option maxHeartbeats 1000000 in
theorem awake_map (w : World) : Calls Try.prog 13 #[] w fun e w' => e = .returned (.bool true) ∧ Below w.heap.size w w' := by
  have hb := (Below.refl w.heap.size w).alloc (Nat.le_refl _) (.cells #[.int .u8 19, .int .u8 0] 5)
  have hM := (MapIn.of_chk (w := w.alloc (.cells #[.int .u8 19, .int .u8 0] 5)) (T := ((10 : Nat) : Int)) (A := some ⟨w.heap.size, 0, none⟩) (n := 2) (c := 2) (l := [19, 0]) rfl (Nat.le_refl _) (by decide) (seg_two w _ _ _) fA_ok).1
  have HB := Lib.hid hb
  have HM := Lib.hid hM
  clear hb hM
  go_enter Try.func13, Try.ntmps13
  go_wp2_with fail
  refine (take_ok 10 fA _ 2 2 3 _ HM.out fA_frees).mono ?_
  rintro e w2 ⟨v, A2, c2, i, rfl, hi, hL, o2, M2, b2⟩
  obtain ⟨hf, hy⟩ := fA_take ⟨i, by omega⟩ hL
  simp only at hf hy
  obtain ⟨A3, c3, rfl, hc3, s3⟩ := own_shape o2
  rw [hf] at s3
  obtain ⟨q, o, rfl, _, _, hc⟩ := s3.pick (k := 2) (by decide)
  obtain ⟨q', o', rfl, _, _, hc'⟩ := M2.seg.pick (k := 0) (by rw [u8s_length, pk_length]; decide)
  rw [u8s_get _ _ (by rw [pk_length]; decide), pk_get _ _ _ (by decide), hy] at hc'
  have hc1 : w2.cell? ⟨q, o + 2, none⟩ = some (.int .i64 5) := hc
  have hc2 : w2.cell? ⟨q', o', none⟩ = some (.int .u8 63) := hc'
  have B2 := Lib.hid (below_step HB.out b2)
  clear hc hc' hf hy o2 s3 b2 hi hL M2
  go_wp2_with fail
  go_ret
  exact ⟨rfl, B2.out.alloc B2.out.size _⟩
theorem own_slice {w : World} {base size : Nat} {e : TypeId} {v : Value} {n : Nat} {xs : List Value} (h : w.ownsRow base e size v n xs) : ∃ A c, v = .slice A n c ∧ n ≤ c := by
  rcases h.2 with ⟨rfl, rfl⟩ | ⟨g, cap, cur, rfl, _, _, hc, _⟩
  · exact ⟨_, _, rfl, Nat.le_refl _⟩
  · exact ⟨_, _, rfl, hc⟩
theorem own_pair {w : World} {base : Nat} {e : TypeId} {A : Option Addr} {c : Nat} {R : List (Nat × Nat)} (h : w.ownsRow base e 2 (.slice A R.length c) R.length (prs R)) (k : Nat) (hk : k < R.length) :
    ∃ g, A = some ⟨g, 0, none⟩ ∧ base ≤ g ∧ g < w.heap.size ∧ w.cell? ⟨g, k * 2, none⟩ = some (.int .i64 (R[k].1 : Int)) ∧ w.cell? ⟨g, k * 2 + 1, none⟩ = some (.int .i64 (R[k].2 : Int)) := by
  obtain ⟨g, rfl, hb, hl⟩ := own_at h (by omega)
  obtain ⟨h1, h2⟩ := prs_get R k hk
  refine ⟨g, rfl, hb, hl, ?_, ?_⟩
  · rw [h.cellAt (k * 2) (by omega), Nat.mul_comm]; exact h1
  · rw [h.cellAt (k * 2 + 1) (by omega), Nat.mul_comm]; exact h2
end Go.Proofs.Ytpkajmgfechhhaa
