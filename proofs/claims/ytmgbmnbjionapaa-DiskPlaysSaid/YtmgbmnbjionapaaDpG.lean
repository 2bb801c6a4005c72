/- The reference's Do: a block written. Condition: its disk and the block lie in memory. -/
import Derived.Test.YtmgbmnbjionapaaDpD
namespace Go.Proofs.Ytmgbmnbjionapaa
open Go.RowKit

theorem own_keptZ {w w' : World} {base size g n : Nat} {e : TypeId} {v : Value} {xs : List Value} (h : w.ownsRow base e size v n xs) (hne : v.ownBlock ≠ some g) (k : Kept2 g w w') : w'.ownsRow base e size v n xs := by
  refine ⟨h.1, ?_⟩
  rcases h.2 with hn | ⟨g', cap, cur, rfl, hg, hgg, rest⟩
  · exact .inl hn
  · refine .inr ⟨g', cap, cur, rfl, hg, ?_, rest⟩
    have hl : g' < w.heap.size := by
      rcases Nat.lt_or_ge g' w.heap.size with h | h
      · exact h
      · rw [Array.getElem?_eq_none h] at hgg; cases hgg
    exact (k.block g' hl (fun e => hne (by rw [e]; rfl))).trans hgg
/-- The cells of waiting writes. -/
theorem wt_cells {w : World} {N : Nat → Prop} {A : Option Addr} {wts : List (Nat × List Nat)} (h : WtN w N A wts) (hp : 0 < wts.length) : ∃ (ad : Addr) (xs : List Value), A = some ad ∧ xs.length = wts.length * 2 ∧ (∀ j u, xs[j]? = some u → w.cell? (ad.add j) = some u) ∧ (∀ u ∈ xs, u.oneCell' = true) ∧
    ∀ k (hk : k < wts.length), xs[k * 2]? = some (.int .i64 ((wts[k]).1 : Int)) ∧ ∃ Ad c, xs[k * 2 + 1]? = some (.slice Ad 256 c) ∧ 256 ≤ c ∧ SegN w N Ad (u8s (wts[k]).2) := by
  obtain ⟨b, off, _, _, hA, _⟩ := h.at' 0 hp
  have each : ∀ k (hk : k < wts.length), w.cell? ⟨b, off + k * 2, none⟩ = some (.int .i64 ((wts[k]).1 : Int)) ∧ ∃ Ad c, w.cell? ⟨b, off + k * 2 + 1, none⟩ = some (.slice Ad 256 c) ∧ 256 ≤ c ∧ SegN w N Ad (u8s (wts[k]).2) := fun k hk => by
    obtain ⟨b2, off2, Ad, c, hA2, _, _, h3, h4, h5, h6⟩ := h.at' k hk
    rw [hA] at hA2
    injection hA2 with hA2
    injection hA2 with e1 e2
    subst e1
    subst e2
    exact ⟨h3, Ad, c, h4, h5, h6⟩
  have hcell : ∀ j, j < wts.length * 2 → ∃ v, w.cell? ⟨b, off + j, none⟩ = some v ∧ v.oneCell' = true := fun j hj => by
    obtain ⟨h1, Ad, c, h2, _⟩ := each (j / 2) (by omega)
    by_cases hp : j % 2 = 0
    · rw [show off + j / 2 * 2 = off + j by omega] at h1
      exact ⟨_, h1, rfl⟩
    · rw [show off + j / 2 * 2 + 1 = off + j by omega] at h2
      exact ⟨_, h2, rfl⟩
  have hget : ∀ j, j < wts.length * 2 → ((List.range (wts.length * 2)).map fun j => (w.cell? ⟨b, off + j, none⟩).getD undef)[j]? = w.cell? ⟨b, off + j, none⟩ := fun j hj => by
    obtain ⟨v, hv, _⟩ := hcell j hj
    rw [List.getElem?_map, List.getElem?_range hj]
    show some ((w.cell? ⟨b, off + j, none⟩).getD undef) = _
    rw [hv]; rfl
  refine ⟨⟨b, off, none⟩, (List.range (wts.length * 2)).map fun j => (w.cell? ⟨b, off + j, none⟩).getD undef, hA, by simp, fun j u hu => ?_, fun u hu => ?_, fun k hk => ?_⟩
  · have hj : j < wts.length * 2 := by
      have := (List.getElem?_eq_some_iff.1 hu).1
      simpa using this
    rw [hget j hj] at hu
    rw [show ((⟨b, off, none⟩ : Addr).add j) = ⟨b, off + j, none⟩ by unfold Addr.add; split <;> simp_all]
    exact hu
  · obtain ⟨j, hj, rfl⟩ := List.mem_map.1 hu
    obtain ⟨v, hv, h1⟩ := hcell j (List.mem_range.1 hj)
    rw [hv]; exact h1
  · obtain ⟨h1, Ad, c, h2, h3⟩ := each k hk
    refine ⟨?_, Ad, c, ?_, h3⟩
    · rw [hget _ (by omega)]; exact h1
    · rw [hget _ (by omega)]; exact h2
theorem segN_own {w : World} {N : Nat → Prop} {base n c : Nat} {e : TypeId} {A : Option Addr} {xs : List Value} (h : w.ownsRow base e 1 (.slice A n c) n xs) (hN : ∀ g, base ≤ g → N g) : SegN w N A xs := fun hn => by
  obtain ⟨b, off, e1, e2, e4⟩ := Seg.of_own h hn
  exact ⟨b, off, e1, e2, hN b (own_freshJ h _ e1), e4⟩
/-- Waiting writes and one more, out of a row of one's own. -/
theorem wt_of_own {w0 w : World} {N : Nat → Prop} {base m c9 : Nat} {V : Value} {A9 : Option Addr} {xs : List Value} {wts : List (Nat × List Nat)} {n : Nat} {L : List Nat} (hm : m = wts.length) (hxl : xs.length = m * 2) (hx : ∀ k (hk : k < wts.length), xs[k * 2]? = some (.int .i64 ((wts[k]).1 : Int)) ∧ ∃ Ad c, xs[k * 2 + 1]? = some (.slice Ad 256 c) ∧ 256 ≤ c ∧ SegN w0 N Ad (u8s (wts[k]).2)) (hN : ∀ g, base ≤ g → N g) (hb : Below w0.heap.size w0 w)
    (ho : w.ownsRow base 76 2 V (m + 1) (xs ++ [.int .i64 (n : Int), .slice A9 256 c9])) (h9 : 256 ≤ c9) (hs : SegN w N A9 (u8s L)) : ∃ A c, V = .slice A (m + 1) c ∧ WtN w N A (wts ++ [(n, L)]) := by
  obtain ⟨g, cap, rfl, hge, hlt⟩ := ho.form (by omega)
  have hc : ∀ j u, (xs ++ [.int .i64 (n : Int), .slice A9 256 c9])[j]? = some u → w.cell? ⟨g, 0 + j, none⟩ = some u := fun j u hu => by
    have := ho.cells (g := g) rfl j u hu
    rw [addr_add] at this; rw [Nat.zero_add]; exact this
  refine ⟨_, _, rfl, ⟨fun k hk => ?_⟩⟩
  rw [List.length_append, List.length_singleton] at hk
  by_cases hlt2 : k < wts.length
  · obtain ⟨h1, Ad, c, h2, h3, h4⟩ := hx k hlt2
    rw [List.getElem_append_left hlt2]
    exact ⟨g, 0, Ad, c, rfl, hlt, hN g hge, hc (k * 2) _ (by rw [List.getElem?_append_left (by omega)]; exact h1), hc (k * 2 + 1) _ (by rw [List.getElem?_append_left (by omega)]; exact h2), h3, h4.bel hb⟩
  · obtain rfl : k = wts.length := by omega
    rw [show (wts ++ [(n, L)])[wts.length] = (n, L) by simp]
    refine ⟨g, 0, A9, c9, rfl, hlt, hN g hge, hc (wts.length * 2) _ ?_, hc (wts.length * 2 + 1) _ ?_, h9, hs⟩
    · rw [List.getElem?_append_right (by omega), hxl, hm, Nat.sub_self]; rfl
    · rw [List.getElem?_append_right (by omega), hxl, hm, show wts.length * 2 + 1 - wts.length * 2 = 1 by omega]; rfl
structure WwG (w0 : World) (C3 : Array Value) (w : World) : Prop where
  bel : Below w0.heap.size w0 w
  b3 : Bk w (w0.heap.size + 1) 36 C3
  b4 : Bk w (w0.heap.size + 1 + 1) 32 ResC
theorem WwG.next {w0 w w' : World} {C3 : Array Value} (h : WwG w0 C3 w) (hb : Below w.heap.size w w') : WwG w0 C3 w' := ⟨below_step h.bel hb, h.b3.bel hb, h.b4.bel hb⟩
/-- A row of bytes of one's own, of a whole block. -/
def Own9 (B : Nat) (L : List Nat) (A9 : Option Addr) (c9 : Nat) (w : World) : Prop := 256 ≤ c9 ∧ w.ownsRow B 5 1 (.slice A9 256 c9) 256 (u8s L)
def wwF (B g2 g3 m cw c n : Nat) (Aw A : Option Addr) (a lv : Value) (L : List Nat) (xs : List Value) (j : Nat) (v _u : Value) (w : World) : Prop := match j with
  | 0 => ∃ ge, v = .slice (some ⟨ge, 0, none⟩) 0 0 ∧ B ≤ ge ∧ Bk w ge 76 #[]
  | 1 => v = .pointer (some ⟨g2, 1, none⟩)
  | 2 => v = .slice Aw m cw
  | 3 => ∃ g cap, v = .slice (some ⟨g, 0, none⟩) m cap ∧ (m = 0 → cap = 0) ∧ w.ownsRow B 76 2 (.slice (some ⟨g, 0, none⟩) m cap) m xs
  | 4 => v = .pointer (some ⟨g3, 1, none⟩)
  | 5 => v = .int .i64 (n : Int)
  | 6 => ∃ ge, v = .slice (some ⟨ge, 0, none⟩) 0 0 ∧ B ≤ ge ∧ Bk w ge 5 #[]
  | 7 => v = .pointer (some ⟨g3, 2, none⟩)
  | 8 => v = .slice A 256 c
  | 9 => ∃ A9 c9, v = .slice A9 256 c9 ∧ Own9 B L A9 c9 w
  | 10 => ∃ A9 c9, v = .agg #[.int .i64 (n : Int), .slice A9 256 c9] ∧ Own9 B L A9 c9 w
  | 11 => ∃ gl A9 c9, v = .slice (some ⟨gl, 0, none⟩) 1 1 ∧ Own9 B L A9 c9 w ∧ Bk w gl 76 #[.int .i64 (n : Int), .slice A9 256 c9]
  | 12 => ∃ A9 c9, Own9 B L A9 c9 w ∧ w.ownsRow B 76 2 v (m + 1) (xs ++ [.int .i64 (n : Int), .slice A9 256 c9])
  | 13 => v = .pointer (some ⟨g2, 1, none⟩)
  | 14 => ∃ V A9 c9, Bk w g2 32 #[a, V, lv] ∧ Own9 B L A9 c9 w ∧ w.ownsRow B 76 2 V (m + 1) (xs ++ [.int .i64 (n : Int), .slice A9 256 c9])
  | _ => True
def wwH (g2 : Nat) (a b lv : Value) (m : Nat) (w : World) : Prop := match m with
  | 14 => Bk w g2 32 #[a, b, lv]
  | _ => True
theorem Own9.bel {B : Nat} {L : List Nat} {A9 : Option Addr} {c9 : Nat} {w w' : World} (h : Own9 B L A9 c9 w) (hb : Below w.heap.size w w') : Own9 B L A9 c9 w' := ⟨h.1, own_belS h.2 hb⟩
section
variable {B g2 g3 m cw c n : Nat} {Aw A : Option Addr} {a lv : Value} {L : List Nat} {xs : List Value} {w w' : World}
theorem wwF_bel (hb : Below w.heap.size w w') : ∀ j u u', wwF B g2 g3 m cw c n Aw A a lv L xs j u u' w → wwF B g2 g3 m cw c n Aw A a lv L xs j u u' w' := by
  intro j u u' h
  unfold wwF at *
  split at h <;> first | exact h | skip
  · obtain ⟨ge, hv, h1, h2⟩ := h
    exact ⟨ge, hv, h1, h2.bel hb⟩
  · obtain ⟨g, cap, hv, h1, h2⟩ := h
    exact ⟨g, cap, hv, h1, own_belS h2 hb⟩
  · obtain ⟨ge, hv, h1, h2⟩ := h
    exact ⟨ge, hv, h1, h2.bel hb⟩
  · obtain ⟨A9, c9, hv, h1⟩ := h
    exact ⟨A9, c9, hv, h1.bel hb⟩
  · obtain ⟨A9, c9, hv, h1⟩ := h
    exact ⟨A9, c9, hv, h1.bel hb⟩
  · obtain ⟨gl, A9, c9, hv, h1, h2⟩ := h
    exact ⟨gl, A9, c9, hv, h1.bel hb, h2.bel hb⟩
  · obtain ⟨A9, c9, h1, h2⟩ := h
    exact ⟨A9, c9, h1.bel hb, own_belS h2 hb⟩
  · obtain ⟨V, A9, c9, h0, h1, h2⟩ := h
    exact ⟨V, A9, c9, h0.bel hb, h1.bel hb, own_belS h2 hb⟩
theorem wwH_bel {b : Value} (hb : Below w.heap.size w w') : ∀ m, wwH g2 a b lv m w → wwH g2 a b lv m w' := by
  intro m h
  unfold wwH at *
  split at h <;> first | exact h | exact Bk.bel h hb
theorem Own9.kept {g : Nat} {A9 : Option Addr} {c9 : Nat} {cur : Array Value} (h : Own9 B L A9 c9 w) (hk : Kept2 g w w') (hcur : Bk w g 76 cur) : Own9 B L A9 c9 w' := ⟨h.1, own_keptZ h.2 (own_neV h.2 hcur (by decide)) hk⟩
/-- What stays where one more is put behind the others in place. -/
theorem wwF_two {g cap : Nat} {cur : Array Value} (hk : Kept2 g w w') (hcur : Bk w g 76 cur) (hcs : 4 ≤ cur.size) (hold : w'.ownsRow B 76 2 (.slice (some ⟨g, 0, none⟩) m cap) m xs) : ∀ j, j ≠ 12 → j ≠ 14 → ∀ u u', (j = 3 → u = .slice (some ⟨g, 0, none⟩) m cap) → (m = 0 → cap = 0) → wwF B g2 g3 m cw c n Aw A a lv L xs j u u' w → wwF B g2 g3 m cw c n Aw A a lv L xs j u u' w' := by
  intro j h12 h14 u u' h3 hm0 h
  have ne : ∀ {b : Nat} {t : TypeId} {cs : Array Value}, Bk w b t cs → cs.size ≤ 2 → b ≠ g := fun {b t cs} hb hs e => by
    subst e
    unfold Bk at hb hcur
    rw [hb] at hcur
    injection hcur with hcur
    injection hcur with hcur
    subst hcur
    omega
  unfold wwF at *
  split at h <;> first | exact h | exact absurd rfl h12 | exact absurd rfl h14 | skip
  · obtain ⟨ge, hv, h1, h2⟩ := h
    exact ⟨ge, hv, h1, (hk.block ge h2.lt (ne h2 (by simp))).trans h2⟩
  · exact ⟨g, cap, h3 rfl, hm0, hold⟩
  · obtain ⟨ge, hv, h1, h2⟩ := h
    exact ⟨ge, hv, h1, (hk.block ge h2.lt (ne h2 (by simp))).trans h2⟩
  · obtain ⟨A9, c9, hv, h1⟩ := h
    exact ⟨A9, c9, hv, h1.kept hk hcur⟩
  · obtain ⟨A9, c9, hv, h1⟩ := h
    exact ⟨A9, c9, hv, h1.kept hk hcur⟩
  · obtain ⟨gl, A9, c9, hv, h1, h2⟩ := h
    exact ⟨gl, A9, c9, hv, h1.kept hk hcur, (hk.block gl h2.lt (ne h2 (by simp))).trans h2⟩
theorem wwF_set {i : Nat} {u0 : Value} {cs : Array Value} (hb : Bk w g2 32 cs) : ∀ j, j ≠ 14 → ∀ u u', wwF B g2 g3 m cw c n Aw A a lv L xs j u u' w → wwF B g2 g3 m cw c n Aw A a lv L xs j u u' (w.setCell ⟨g2, i, none⟩ u0) := by
  intro j h14 u u' h
  have ne : ∀ {b : Nat} {t : TypeId} {cs' : Array Value}, Bk w b t cs' → t ≠ 32 → b ≠ g2 := fun {b t cs'} hb' hs e => by
    subst e
    unfold Bk at hb hb'
    rw [hb'] at hb
    injection hb with hb
    injection hb with _ hb
    exact hs hb
  have own : ∀ {size n : Nat} {e : TypeId} {v : Value} {ys : List Value}, w.ownsRow B e size v n ys → e ≠ 32 → (w.setCell ⟨g2, i, none⟩ u0).ownsRow B e size v n ys := fun h' he => ownsRow_setCell_other h' (own_neV h' hb he) _
  unfold wwF at *
  split at h <;> first | exact h | exact absurd rfl h14 | skip
  · obtain ⟨ge, hv, h1, h2⟩ := h
    exact ⟨ge, hv, h1, h2.far (ne h2 (by decide)) _⟩
  · obtain ⟨g, cap, hv, h1, h2⟩ := h
    exact ⟨g, cap, hv, h1, own h2 (by decide)⟩
  · obtain ⟨ge, hv, h1, h2⟩ := h
    exact ⟨ge, hv, h1, h2.far (ne h2 (by decide)) _⟩
  · obtain ⟨A9, c9, hv, h1⟩ := h
    exact ⟨A9, c9, hv, h1.1, own h1.2 (by decide)⟩
  · obtain ⟨A9, c9, hv, h1⟩ := h
    exact ⟨A9, c9, hv, h1.1, own h1.2 (by decide)⟩
  · obtain ⟨gl, A9, c9, hv, h1, h2⟩ := h
    exact ⟨gl, A9, c9, hv, ⟨h1.1, own h1.2 (by decide)⟩, h2.far (ne h2 (by decide)) _⟩
  · obtain ⟨A9, c9, h1, h2⟩ := h
    exact ⟨A9, c9, ⟨h1.1, own h1.2 (by decide)⟩, own h2 (by decide)⟩
end
set_option maxRecDepth 100000 in
set_option maxHeartbeats 8000000 in
theorem rdo_write (N : Nat → Prop) (Ab Aw : Option Addr) (T cb cw : Nat) (D : DM) (o : OpM) (A : Option Addr) (c : Nat) (w : World) (h : RfD N w Ab Aw D T) (hN : ∀ g, w.heap.size ≤ g → N g) (n : Nat) (hk : o.kind = 1) (hin : o.block = (n : Int)) (hnT : n < T) (hl : o.data.length = 256) (hS : Seg w A (u8s o.data)) (D' : DM) (hu : D.use = some D') (hroom : D'.wts.length < 64) : Calls Try.prog 17 #[RfV Ab T cb Aw D.wts.length cw (refL D), .agg (o.cells A c)] w (RdPost N w T (D'.put n o.data, [], 0)) := by
  have hk1 : (o.kind == 1) = true := by rw [hk]; rfl
  have hk2 : (o.kind == 2) = false := by rw [hk]; rfl
  have hk3 : (o.kind == 3) = false := by rw [hk]; rfl
  have hk4 : (o.kind == 4) = false := by rw [hk]; rfl
  have hg4 : w.heap.size ≤ w.heap.size + 1 + 1 := by omega
  obtain ⟨j0, hj0, hi0, hi1, hi2⟩ := info_parts info_u8
  obtain ⟨k0, hk0, hk1, hk2', hk3'⟩ := info_parts info_bw
  have hok := (h.ok.use hu).put n o.data hnT hl hroom
  obtain ⟨hu1, hu2⟩ := DM.use_img hu
  have hr := refL_high h.ok
  have hue := ref_use h.ok
  have HOKF := Lib.hid hok
  have HNW := Lib.hid hN
  clear hN
  have HIMG := Lib.hid (show (D'.put n o.data).img = D.img from hu1)
  have HWE := Lib.hid (show (D'.put n o.data).wts = D.wts ++ [(n, o.data)] by show D'.wts ++ _ = _; rw [hu2])
  have HWL := Lib.hid (show (D'.put n o.data).wts.length = D.wts.length + 1 by rw [HWE.out]; simp)
  have hb0 : 0 ≤ o.block := by omega
  have hbT : o.block < (T : Int) := by omega
  have HIN := Lib.hid hin
  obtain ⟨xs, hxl, hxc, hx1, hxk⟩ : ∃ xs : List Value, xs.length = D.wts.length * 2 ∧ (0 < D.wts.length → ∃ ad, Aw = some ad ∧ ∀ w', Below w.heap.size w w' → ∀ j u, xs[j]? = some u → w'.cell? (ad.add j) = some u) ∧ (∀ u ∈ xs, u.oneCell' = true) ∧ ∀ k (hk : k < D.wts.length), xs[k * 2]? = some (.int .i64 ((D.wts[k]).1 : Int)) ∧ ∃ Ad c, xs[k * 2 + 1]? = some (.slice Ad 256 c) ∧ 256 ≤ c ∧ SegN w N Ad (u8s (D.wts[k]).2) := by
    by_cases h0 : 0 < D.wts.length
    · obtain ⟨ad, xs, e1, e2, e3, e4, e5⟩ := wt_cells h.wt h0
      refine ⟨xs, e2, fun _ => ⟨ad, e1, fun w' hb j u hu => ?_⟩, e4, e5⟩
      have h6 := e3 j u hu
      rw [hb.cell (World.block_lt_of_cell? w _ h6)]; exact h6
    · exact ⟨[], by simp; omega, fun h => absurd h h0, by simp, fun k hk => by omega⟩
  have HSL := Lib.hid hS
  have HDL2 := Lib.hid hl
  clear hk hin hok hu1 hS
  obtain ⟨lf, hlf⟩ : ∃ lf, lf = refL D := ⟨_, rfl⟩
  obtain ⟨m, hm⟩ : ∃ m, m = D.wts.length := ⟨_, rfl⟩
  obtain ⟨dl, hdl⟩ : ∃ dl, dl = o.data.length := ⟨_, rfl⟩
  have hT := h.ok.top
  have hT1 := h.ok.one
  have hfew : m ≤ 64 := by rw [hm]; exact h.ok.few
  obtain ⟨wA, hwA⟩ : ∃ wA, wA = w.alloc (.cells #[.slice Ab T cb, .slice Aw m cw, .int .i64 lf] 32) := ⟨_, rfl⟩
  have hsA : wA.heap.size = w.heap.size + 1 := by rw [hwA]; simp
  obtain ⟨wB, hwB⟩ : ∃ wB, wB = wA.alloc (.cells #[.int .i64 o.kind, .int .i64 o.block, .slice A dl c, .int .u64 (o.keep : Int), .int .i64 o.tear, .int .i64 o.sectors] 36) := ⟨_, rfl⟩
  have hsB : wB.heap.size = w.heap.size + 1 + 1 := by rw [hwB]; simp [hsA]
  obtain ⟨wC, hwC⟩ : ∃ wC, wC = wB.alloc (.cells ResC 32) := ⟨_, rfl⟩
  have hsC : wC.heap.size = w.heap.size + 1 + 1 + 1 := by rw [hwC]; simp [hsB]
  have X2 : Bk wC w.heap.size 32 #[.slice Ab T cb, .slice Aw m cw, .int .i64 lf] := by rw [hwC, hwB, hwA]; exact ((Bk.new w _ _).alloc _).alloc _
  have X3 : Bk wC (w.heap.size + 1) 36 #[.int .i64 o.kind, .int .i64 o.block, .slice A dl c, .int .u64 (o.keep : Int), .int .i64 o.tear, .int .i64 o.sectors] := by rw [hwC, hwB, ← hsA]; exact (Bk.new wA _ _).alloc _
  have X4 : Bk wC (w.heap.size + 1 + 1) 32 ResC := by rw [hwC, ← hsB]; exact Bk.new wB _ _
  have BC : Below w.heap.size w wC := by rw [hwC, hwB, hwA]; exact (((Below.refl _ _).alloc (Nat.le_refl _) _).alloc (by simp) _).alloc (by simp; omega) _
  have x0 := X2.cell 0
  have x1 := X2.cell 1
  have x2 := X2.cell 2
  have y0 := X3.cell 0
  have y1 := X3.cell 1
  have y2 := X3.cell 2
  have y3 := X3.cell 3
  have y4 := X3.cell 4
  have y5 := X3.cell 5
  have z0 := X4.cell 0
  have z1 := X4.cell 1
  have z2 := X4.cell 2
  simp only [ResC, List.getElem?_toArray, List.getElem?_cons_zero, List.getElem?_cons_succ] at x0 x1 x2 y0 y1 y2 y3 y4 y5 z0 z1 z2
  have f0 := X4.frozen 0
  have f1 := X4.frozen 1
  have f2 := X4.frozen 2
  have fx2 := X2.frozen 2
  have HX2 := Lib.hid X2
  have HX3 := Lib.hid X3
  have HX4 := Lib.hid X4
  have HBC := Lib.hid BC
  have HH := Lib.hid h
  have HLF := Lib.hid hlf
  have HM := Lib.hid hm
  have HDL := Lib.hid hdl
  have HSC := Lib.hid hsC
  have HWW := Lib.hid (show ((w.alloc (.cells #[.slice Ab T cb, .slice Aw m cw, .int .i64 lf] 32)).alloc (.cells #[.int .i64 o.kind, .int .i64 o.block, .slice A dl c, .int .u64 (o.keep : Int), .int .i64 o.tear, .int .i64 o.sectors] 36)).alloc (.cells #[.slice none 0 0, .slice none 0 0, .int .i64 0] 32) = wC by rw [hwC, hwB, hwA]; rfl)
  rw [← hlf, ← hm]
  unfold RfV OpM.cells
  rw [← hdl]
  clear hwA hwB hwC hsA hsB hsC X2 X3 X4 BC h hlf hm hdl
  go_enter Try.func17, Try.ntmps17
  go_upto_region 1 with fail
  rw [HWW.out]
  have hin := HIN.out
  rw [hu2, ← HM.out] at hroom
  rw [← HM.out] at hxl hxc
  have HXL := Lib.hid hxl
  have HXC := Lib.hid hxc
  have HX1 := Lib.hid hx1
  have HXK := Lib.hid hxk
  rw [← HLF.out] at hue hr
  rw [← HDL.out] at hl
  subst hl
  rw [hin] at y1 hb0 hbT
  have HX3' := HX3
  rw [hin] at HX3'
  have hmI : ¬ (64 : Int) ≤ (m : Int) := by omega
  have hm64 : m < 64 := hroom
  clear hin HX3 hxl hxc hx1 hxk hroom
  rcases hue with ⟨_, hn⟩ | ⟨hpos, D2, hD2, _, _, hu3⟩ | ⟨hneg, hD2⟩
  · rw [hu] at hn; cases hn
  · obtain rfl : D' = D2 := by rw [hu] at hD2; exact Option.some.inj hD2
    have hlz : (lf == 0) = false := by rw [beq_eq_false_iff_ne]; omega
    have HREF := Lib.hid (show refL (D'.put n o.data) = lf - 1 from hu3)
    obtain ⟨wS, hwS⟩ : ∃ wS, wS = wC.setCell ⟨w.heap.size, 2, none⟩ (.int .i64 (lf - 1)) := ⟨_, rfl⟩
    have X2 : Bk wS w.heap.size 32 #[.slice Ab T cb, .slice Aw m cw, .int .i64 (lf - 1)] := by rw [hwS]; exact HX2.out.put 2 _
    have X3 : Bk wS (w.heap.size + 1) 36 #[.int .i64 o.kind, .int .i64 (n : Int), .slice A 256 c, .int .u64 (o.keep : Int), .int .i64 o.tear, .int .i64 o.sectors] := by rw [hwS]; exact HX3'.out.far (by simp) _
    have X4 : Bk wS (w.heap.size + 1 + 1) 32 ResC := by rw [hwS]; exact HX4.out.far (by simp only; omega) _
    have BS : Below w.heap.size w wS := by rw [hwS]; exact HBC.out.setCell (Nat.le_refl _) _
    have hzS : wS.heap.size = w.heap.size + 1 + 1 + 1 := by rw [hwS, ← HSC.out]; simp
    have hsub : wrap64 (lf - 1) = lf - 1 := IntWalk.wrap64_in _ ⟨by omega, by omega⟩
    have hsub2 : IntKind.i64.wrap (lf - 1) = lf - 1 := IntWalk.i64_in _ ⟨by omega, by omega⟩
    have HWS := Lib.hid hwS
    clear hwS hD2 hu hu3
    go_upto_region 10 with fail
    rw [← HWS.out]
    clear x0 x1 x2 y0 y1 y2 y3 y4 y5 z0 z1 z2 f0 f1 f2 fx2
    have x0 := X2.cell 0
    have x1 := X2.cell 1
    have x2 := X2.cell 2
    have y0 := X3.cell 0
    have y1 := X3.cell 1
    have y2 := X3.cell 2
    have y3 := X3.cell 3
    have y4 := X3.cell 4
    have y5 := X3.cell 5
    have z0 := X4.cell 0
    have z1 := X4.cell 1
    have z2 := X4.cell 2
    simp only [ResC, List.getElem?_toArray, List.getElem?_cons_zero, List.getElem?_cons_succ] at x0 x1 x2 y0 y1 y2 y3 y4 y5 z0 z1 z2
    have f0 := X4.frozen 0
    have f1 := X4.frozen 1
    have f2 := X4.frozen 2
    have HBS := Lib.hid BS
    have HY2 := Lib.hid X2
    have HY3 := Lib.hid X3
    have HY4 := Lib.hid X4
    clear X2 X3 X4 BS
    go_upto_region 12 with fail
    clear x0 x1 x2 y0 y1 y2 y3 y4 y5 z0 z1 z2 f0 f1 f2
    have G0 := Lib.hid (show WwG w #[.int .i64 o.kind, .int .i64 (n : Int), .slice A 256 c, .int .u64 (o.keep : Int), .int .i64 o.tear, .int .i64 o.sectors] wS.drew from ⟨(HBS.out).drew, (HY3.out).drew, (HY4.out).drew⟩)
    have H0 := Lib.hid (show ∀ q, q < 15 → wwH w.heap.size (.slice Ab T cb) (.slice Aw m cw) (.int .i64 (lf - 1)) q wS.drew from fun q _ => by
      unfold wwH
      split
      · exact (HY2.out).drew
      · trivial)
    go_wp2_with fail
    refine wp_region_late [some 51, some 52, some 53, some 54, some 55, some 56, some 57, some 58, some 59, some 60, some 61, some 62, some 63, some 64, none] (fun _ => 0) (wwF w.heap.size w.heap.size (w.heap.size + 1) m cw c n Aw A (.slice Ab T cb) (.int .i64 (lf - 1)) o.data xs) (WwG w #[.int .i64 o.kind, .int .i64 (n : Int), .slice A 256 c, .int .u64 (o.keep : Int), .int .i64 o.tear, .int .i64 o.sectors]) (wwH w.heap.size (.slice Ab T cb) (.slice Aw m cw) (.int .i64 (lf - 1))) (by kernel_rfl) G0.out H0.out rfl (by kernel_rfl) (by kernel_rfl) (by kernel_rfl) (by kernel_rfl) (fun T hT => ?_)
    simp only [List.filterMap_cons, List.filterMap_nil, id, putsS, Act.put, List.setIfInBounds_toArray, List.set_cons_zero, List.set_cons_succ] at hT
    subst hT
    refine ⟨⟨?_, ?_, ?_, ?_, ?_, ?_, ?_, ?_, ?_, ?_, ?_, ?_, ?_, ?_, ?_, trivial⟩, ?_⟩
    · -- 0: Op.buildSlice 30 0 #[]
      intro f w1 hG hO hL hF K hK
      clear hF hO hL
      dsimp only at hK ⊢
      go_simp
      exact hK.out _ _ (hG.next ((Below.refl _ _).alloc (Nat.le_refl _) _)) ⟨w1.heap.size, rfl, hG.bel.size, Bk.new w1 _ _⟩ (fun j _ _ h => wwF_bel ((Below.refl _ _).alloc (Nat.le_refl _) _) j _ _ h) (fun m _ h => wwH_bel ((Below.refl _ _).alloc (Nat.le_refl _) _) m h)
    · -- 1: Op.fieldAddr 32 t2 1
      intro f w1 hG hO hL hF K hK
      clear hF hO hL
      dsimp only at hK ⊢
      go_simp
      exact hK.out _ _ hG rfl (fun _ _ _ h => h) (fun _ _ h => h)
    · -- 2: Op.load 30 t52
      intro f w1 hG hO hL hF K hK
      have l14 : (wwH w.heap.size (.slice Ab T cb) (.slice Aw m cw) (.int .i64 (lf - 1))) 14 w1 := hL 14 (Nat.le_of_ble_eq_true (by kernel_rfl)) (by kernel_rfl)
      have d1 : (wwF w.heap.size w.heap.size (w.heap.size + 1) m cw c n Aw A (.slice Ab T cb) (.int .i64 (lf - 1)) o.data xs) 1 (f 52) (f 0) w1 := hF 1 (by kernel_rfl)
      clear hF hO hL
      dsimp only at hK ⊢
      generalize hf52 : f 52 = v52 at *
      subst d1
      have y := Bk.cell l14 1
      simp only [List.getElem?_toArray, List.getElem?_cons_zero, List.getElem?_cons_succ] at y
      go_simp
      exact hK.out _ _ hG rfl (fun _ _ _ h => h) (fun _ _ h => h)
    · -- 3: Op.call ( builtin append, args := #[t51, t53], argTypes := #[30, 30] )
      intro f w1 hG hO hL hF K hK
      have d0 : (wwF w.heap.size w.heap.size (w.heap.size + 1) m cw c n Aw A (.slice Ab T cb) (.int .i64 (lf - 1)) o.data xs) 0 (f 51) (f 0) w1 := hF 0 (by kernel_rfl)
      have d2 : (wwF w.heap.size w.heap.size (w.heap.size + 1) m cw c n Aw A (.slice Ab T cb) (.int .i64 (lf - 1)) o.data xs) 2 (f 53) (f 0) w1 := hF 2 (by kernel_rfl)
      clear hF hO hL
      dsimp only at hK ⊢
      generalize hf51 : f 51 = v51 at *
      generalize hf53 : f 53 = v53 at *
      have d2 : v53 = .slice Aw m cw := d2
      subst d2
      obtain ⟨ge, rfl, hge, hbk⟩ := d0
      have ho0 : w1.ownsRow w.heap.size 76 2 (.slice (some ⟨ge, 0, none⟩) 0 0) 0 [] := ⟨rfl, .inr ⟨ge, 0, #[], rfl, hge, hbk, Nat.le_refl _, by decide, rfl, rfl⟩⟩
      by_cases hz : m = 0
      · have hxs : xs = [] := List.eq_nil_of_length_eq_zero (by have := HXL.out; omega)
        have hrun := run_append_none (P := Try.prog) w1 w.heap.size 30 30 76 k0 Try.underlying30 hk0 (.slice (some ⟨ge, 0, none⟩) 0 0) 0 2 [] ho0 Aw cw
        refine Lib.wp_append_run w1 _ _ _ _ rfl _ _ rfl (show _ = Value.slice Aw 0 cw by rw [← hz]; rfl) _ w1 hrun (hK.out _ _ hG ⟨ge, 0, by rw [hz]; rfl, fun _ => rfl, by rw [hz, hxs]; exact ho0⟩ (fun _ _ _ h => h) (fun _ _ h => h))
      · obtain ⟨ad, hAd, hcs⟩ := HXC.out (by omega)
        obtain ⟨v', w2', hrun, hown, _, _, hbb, hor⟩ := run_append_two (P := Try.prog) w1 w.heap.size 30 30 76 k0 _ 2 32 Try.underlying30 hk0 hk1 hk2' hk3' rfl ge 0 0 [] ho0 ad m cw xs HXL.out (fun j u hu => hcs w1 hG.bel j u hu) HX1.out (by omega) (by simp only [maxLen]; omega) (by omega) hG.bel.size
        have hb2 : Below w1.heap.size w1 w2' := by
          rcases hor with h | ⟨h, _⟩
          · exact h
          · omega
        rw [Nat.zero_add, List.nil_append] at hown
        obtain ⟨g2, c2, rfl, _, _⟩ := hown.form (by omega)
        refine Lib.wp_append_run w1 _ _ _ _ rfl _ _ rfl (by rw [hAd]; rfl) _ w2' hrun (hK.out _ _ (hG.next hb2) ⟨g2, c2, rfl, fun h => absurd h hz, hown⟩ (fun j _ _ h => wwF_bel hb2 j _ _ h) (fun m _ h => wwH_bel hb2 m h))
    · -- 4: Op.fieldAddr 36 t3 1
      intro f w1 hG hO hL hF K hK
      clear hF hO hL
      dsimp only at hK ⊢
      go_simp
      exact hK.out _ _ hG rfl (fun _ _ _ h => h) (fun _ _ h => h)
    · -- 5: Op.load 3 t55
      intro f w1 hG hO hL hF K hK
      have d4 : (wwF w.heap.size w.heap.size (w.heap.size + 1) m cw c n Aw A (.slice Ab T cb) (.int .i64 (lf - 1)) o.data xs) 4 (f 55) (f 0) w1 := hF 4 (by kernel_rfl)
      clear hF hO hL
      dsimp only at hK ⊢
      generalize hf55 : f 55 = v55 at *
      subst d4
      have y := hG.b3.cell 1
      simp only [List.getElem?_toArray, List.getElem?_cons_zero, List.getElem?_cons_succ] at y
      go_simp
      exact hK.out _ _ hG rfl (fun _ _ _ h => h) (fun _ _ h => h)
    · -- 6: Op.buildSlice 26 0 #[]
      intro f w1 hG hO hL hF K hK
      clear hF hO hL
      dsimp only at hK ⊢
      go_simp
      exact hK.out _ _ (hG.next ((Below.refl _ _).alloc (Nat.le_refl _) _)) ⟨w1.heap.size, rfl, hG.bel.size, Bk.new w1 _ _⟩ (fun j _ _ h => wwF_bel ((Below.refl _ _).alloc (Nat.le_refl _) _) j _ _ h) (fun m _ h => wwH_bel ((Below.refl _ _).alloc (Nat.le_refl _) _) m h)
    · -- 7: Op.fieldAddr 36 t3 2
      intro f w1 hG hO hL hF K hK
      clear hF hO hL
      dsimp only at hK ⊢
      go_simp
      exact hK.out _ _ hG rfl (fun _ _ _ h => h) (fun _ _ h => h)
    · -- 8: Op.load 26 t58
      intro f w1 hG hO hL hF K hK
      have d7 : (wwF w.heap.size w.heap.size (w.heap.size + 1) m cw c n Aw A (.slice Ab T cb) (.int .i64 (lf - 1)) o.data xs) 7 (f 58) (f 0) w1 := hF 7 (by kernel_rfl)
      clear hF hO hL
      dsimp only at hK ⊢
      generalize hf58 : f 58 = v58 at *
      subst d7
      have y := hG.b3.cell 2
      simp only [List.getElem?_toArray, List.getElem?_cons_zero, List.getElem?_cons_succ] at y
      go_simp
      exact hK.out _ _ hG rfl (fun _ _ _ h => h) (fun _ _ h => h)
    · -- 9: Op.call ( builtin append, args := #[t57, t59], argTypes := #[26, 26] )
      intro f w1 hG hO hL hF K hK
      have d6 : (wwF w.heap.size w.heap.size (w.heap.size + 1) m cw c n Aw A (.slice Ab T cb) (.int .i64 (lf - 1)) o.data xs) 6 (f 57) (f 0) w1 := hF 6 (by kernel_rfl)
      have d8 : (wwF w.heap.size w.heap.size (w.heap.size + 1) m cw c n Aw A (.slice Ab T cb) (.int .i64 (lf - 1)) o.data xs) 8 (f 59) (f 0) w1 := hF 8 (by kernel_rfl)
      clear hF hO hL
      dsimp only at hK ⊢
      generalize hf57 : f 57 = v57 at *
      generalize hf59 : f 59 = v59 at *
      have d8 : v59 = .slice A 256 c := d8
      subst d8
      obtain ⟨ge, rfl, hge, hbk⟩ := d6
      obtain ⟨v', w2', hrun, hown, hbel⟩ := run_append_empty (P := Try.prog) w1 w.heap.size 26 26 5 j0 _ 1 Try.underlying26 hj0 hi0 hi1 hi2 rfl ge hge hbk A 256 c (u8s o.data) (by rw [u8s_length]; exact HDL2.out.symm) (HSL.out.below (Nat.le_refl _) hG.bel) (u8s_one _) (by simp only [maxLen]; omega) (by omega)
      obtain ⟨A6, c6, rfl, hc6, _⟩ := own_shape hown
      refine Lib.wp_append_run w1 _ _ _ _ rfl _ _ rfl rfl _ w2' hrun (hK.out _ _ (hG.next hbel) ⟨A6, c6, rfl, hc6, hown⟩ (fun j _ _ h => wwF_bel hbel j _ _ h) (fun m _ h => wwH_bel hbel m h))
    · -- 10: Op.build 76 #[(0, t56), (1, t60)]
      intro f w1 hG hO hL hF K hK
      have d5 : (wwF w.heap.size w.heap.size (w.heap.size + 1) m cw c n Aw A (.slice Ab T cb) (.int .i64 (lf - 1)) o.data xs) 5 (f 56) (f 0) w1 := hF 5 (by kernel_rfl)
      have d9 : (wwF w.heap.size w.heap.size (w.heap.size + 1) m cw c n Aw A (.slice Ab T cb) (.int .i64 (lf - 1)) o.data xs) 9 (f 60) (f 0) w1 := hF 9 (by kernel_rfl)
      clear hF hO hL
      dsimp only at hK ⊢
      generalize hf56 : f 56 = v56 at *
      generalize hf60 : f 60 = v60 at *
      subst d5
      obtain ⟨A9, c9, rfl, h9⟩ := d9
      go_simp
      exact hK.out _ _ hG ⟨A9, c9, rfl, h9⟩ (fun _ _ _ h => h) (fun _ _ h => h)
    · -- 11: Op.buildSlice 30 1 #[(0, t61)]
      intro f w1 hG hO hL hF K hK
      have d10 : (wwF w.heap.size w.heap.size (w.heap.size + 1) m cw c n Aw A (.slice Ab T cb) (.int .i64 (lf - 1)) o.data xs) 10 (f 61) (f 0) w1 := hF 10 (by kernel_rfl)
      clear hF hO hL
      dsimp only at hK ⊢
      generalize hf61 : f 61 = v61 at *
      obtain ⟨A9, c9, rfl, h9⟩ := d10
      go_simp
      exact hK.out _ _ (hG.next ((Below.refl _ _).alloc (Nat.le_refl _) _)) ⟨w1.heap.size, A9, c9, rfl, h9.bel ((Below.refl _ _).alloc (Nat.le_refl _) _), Bk.new w1 _ _⟩ (fun j _ _ h => wwF_bel ((Below.refl _ _).alloc (Nat.le_refl _) _) j _ _ h) (fun m _ h => wwH_bel ((Below.refl _ _).alloc (Nat.le_refl _) _) m h)
    · -- 12: Op.call ( builtin append, args := #[t54, t62], argTypes := #[30, 30] )
      intro f w1 hG hO hL hF K hK
      have d3 : (wwF w.heap.size w.heap.size (w.heap.size + 1) m cw c n Aw A (.slice Ab T cb) (.int .i64 (lf - 1)) o.data xs) 3 (f 54) (f 0) w1 := hF 3 (by kernel_rfl)
      have d11 : (wwF w.heap.size w.heap.size (w.heap.size + 1) m cw c n Aw A (.slice Ab T cb) (.int .i64 (lf - 1)) o.data xs) 11 (f 62) (f 0) w1 := hF 11 (by kernel_rfl)
      clear hF hO hL
      dsimp only at hK ⊢
      generalize hf54 : f 54 = v54 at *
      generalize hf62 : f 62 = v62 at *
      obtain ⟨g, cap, hv54, hm0, ho3⟩ := d3
      subst hv54
      obtain ⟨gl, A9, c9, rfl, h9, hbk⟩ := d11
      have hcb : ∀ j u, [Value.int .i64 (n : Int), Value.slice A9 256 c9][j]? = some u → w1.cell? ((⟨gl, 0, none⟩ : Addr).add j) = some u := fun j u hu => by
        rw [addr_add, hbk.cell j]; simpa using hu
      obtain ⟨v', w2', hrun, hown, hold, hkept, hbb, hor⟩ := run_append_two (P := Try.prog) w1 w.heap.size 30 30 76 k0 _ 2 32 Try.underlying30 hk0 hk1 hk2' hk3' rfl g m cap xs ho3 ⟨gl, 0, none⟩ 1 1 [Value.int .i64 (n : Int), Value.slice A9 256 c9] rfl hcb (by intro u hu; simp only [List.mem_cons, List.not_mem_nil, or_false] at hu; rcases hu with rfl | rfl <;> rfl) (by omega) (by simp only [maxLen]; omega) (by omega) hG.bel.size
      rcases hor with hb2 | ⟨hroom, cur, hcur, hcs, _⟩
      · refine Lib.wp_append_run w1 _ _ _ _ rfl _ _ rfl rfl _ w2' hrun (hK.out _ _ (hG.next hb2) ⟨A9, c9, h9.bel hb2, hown⟩ (fun j _ _ h => wwF_bel hb2 j _ _ h) (fun m _ h => wwH_bel hb2 m h))
      · have hcu : Bk w1 g 76 cur := hcur
        have h4 : 4 ≤ cur.size := by
          have : m ≠ 0 := fun h => by have := hm0 h; omega
          omega
        have neT : ∀ {b : Nat} {t : TypeId} {cs : Array Value}, Bk w1 b t cs → t ≠ 76 → b ≠ g := fun {b t cs} hb ht e => by
          subst e
          unfold Bk at hb hcu
          rw [hb] at hcu
          injection hcu with hcu
          injection hcu with _ hcu
          exact ht hcu
        refine Lib.wp_append_run w1 _ _ _ _ rfl _ _ rfl rfl _ w2' hrun (hK.out _ _ ⟨hG.bel.trans hbb, (hkept.block _ hG.b3.lt (neT hG.b3 (by decide))).trans hG.b3, (hkept.block _ hG.b4.lt (neT hG.b4 (by decide))).trans hG.b4⟩ ⟨A9, c9, h9.kept hkept hcu, hown⟩ ?_ ?_)
        · intro j hj hdep h
          by_cases h14 : j = 14
          · subst h14
            exact absurd hdep (by rw [show depS _ 14 12 = true by kernel_rfl]; decide)
          · exact wwF_two hkept hcu h4 hold j hj h14 _ _ (fun e => by subst e; exact hf54) hm0 h
        · intro m2 hm2 h
          unfold wwH at *
          split at h
          · exact (hkept.block _ (Bk.lt h) (neT h (by decide))).trans h
          · trivial
    · -- 13: Op.fieldAddr 32 t2 1
      intro f w1 hG hO hL hF K hK
      clear hF hO hL
      dsimp only at hK ⊢
      go_simp
      exact hK.out _ _ hG rfl (fun _ _ _ h => h) (fun _ _ h => h)
    · -- 14: Op.store 30 t64 t63
      intro f w1 hG hO hL hF K hK
      have l14 : (wwH w.heap.size (.slice Ab T cb) (.slice Aw m cw) (.int .i64 (lf - 1))) 14 w1 := hL 14 (Nat.le_of_ble_eq_true (by kernel_rfl)) (by kernel_rfl)
      have d13 : (wwF w.heap.size w.heap.size (w.heap.size + 1) m cw c n Aw A (.slice Ab T cb) (.int .i64 (lf - 1)) o.data xs) 13 (f 64) (f 0) w1 := hF 13 (by kernel_rfl)
      have d12 : (wwF w.heap.size w.heap.size (w.heap.size + 1) m cw c n Aw A (.slice Ab T cb) (.int .i64 (lf - 1)) o.data xs) 12 (f 63) (f 0) w1 := hF 12 (by kernel_rfl)
      clear hF hO hL
      dsimp only at hK ⊢
      generalize hf64 : f 64 = v64 at *
      generalize hf63 : f 63 = v63 at *
      subst d13
      obtain ⟨A9, c9, h9, ho12⟩ := d12
      obtain ⟨g12, c12, rfl, _, _⟩ := ho12.form (by omega)
      have L14 := Lib.hid (show Bk w1 w.heap.size 32 #[.slice Ab T cb, .slice Aw m cw, .int .i64 (lf - 1)] from l14)
      have y1 := L14.out.cell 1
      have fy1 := L14.out.frozen 1
      simp only [List.getElem?_toArray, List.getElem?_cons_zero, List.getElem?_cons_succ] at y1
      have HG := Lib.hid hG
      have H9 := Lib.hid h9
      have HO := Lib.hid ho12
      have hne3 : w.heap.size + 1 ≠ w.heap.size := by omega
      have hne4 : w.heap.size + 1 + 1 ≠ w.heap.size := by omega
      clear l14 hG h9 ho12
      go_simp
      refine hK.out undef _ ⟨HG.out.bel.setCell (Nat.le_refl _) _, HG.out.b3.far hne3 _, HG.out.b4.far hne4 _⟩ ⟨_, A9, c9, L14.out.put 1 _, ⟨H9.out.1, ownsRow_setCell_other H9.out.2 (own_neV H9.out.2 L14.out (by decide)) _⟩, ownsRow_setCell_other HO.out (own_neV HO.out L14.out (by decide)) _⟩ (fun j hj _ h => wwF_set L14.out j hj _ _ h) ?_
      intro m2 hm2 h
      unfold wwH at *
      split at h
      · exact absurd rfl hm2
      · trivial
    intro f w6 hG hF
    obtain ⟨V, A9, c9, hb2, h9, ho⟩ : ∃ (V : Value) (A9 : Option Addr) (c9 : Nat), Bk w6 w.heap.size 32 #[.slice Ab T cb, V, .int .i64 (lf - 1)] ∧ Own9 w.heap.size o.data A9 c9 w6 ∧ w6.ownsRow w.heap.size 76 2 V (m + 1) (xs ++ [Value.int .i64 (n : Int), Value.slice A9 256 c9]) := hF 14 (by decide)
    have HG := Lib.hid hG
    clear hF hG
    dsimp only
    generalize f 51 = v51
    generalize f 52 = v52
    generalize f 53 = v53
    generalize f 54 = v54
    generalize f 55 = v55
    generalize f 56 = v56
    generalize f 57 = v57
    generalize f 58 = v58
    generalize f 59 = v59
    generalize f 60 = v60
    generalize f 61 = v61
    generalize f 62 = v62
    generalize f 63 = v63
    generalize f 64 = v64
    have BF0 := Lib.hid ((((HG.out.bel).setCell (p := ⟨w.heap.size + 1 + 1, 0, none⟩) hg4 (.slice Ab T cb)).setCell (p := ⟨w.heap.size + 1 + 1, 1, none⟩) hg4 V).setCell (p := ⟨w.heap.size + 1 + 1, 2, none⟩) hg4 (.int .i64 (lf - 1)))
    have HB4 := Lib.hid HG.out.b4
    have h91 := (ownsRow_setCell_other (ownsRow_setCell_other (ownsRow_setCell_other h9.2 (own_neV h9.2 HB4.out (by decide)) (a := ⟨w.heap.size + 1 + 1, 0, none⟩) (.slice Ab T cb)) (own_neV h9.2 HB4.out (by decide)) (a := ⟨w.heap.size + 1 + 1, 1, none⟩) V) (own_neV h9.2 HB4.out (by decide)) (a := ⟨w.heap.size + 1 + 1, 2, none⟩) (.int .i64 (lf - 1)))
    have ho1 := (ownsRow_setCell_other (ownsRow_setCell_other (ownsRow_setCell_other ho (own_neV ho HB4.out (by decide)) (a := ⟨w.heap.size + 1 + 1, 0, none⟩) (.slice Ab T cb)) (own_neV ho HB4.out (by decide)) (a := ⟨w.heap.size + 1 + 1, 1, none⟩) V) (own_neV ho HB4.out (by decide)) (a := ⟨w.heap.size + 1 + 1, 2, none⟩) (.int .i64 (lf - 1)))
    obtain ⟨AV, cV, rfl, hwt⟩ := wt_of_own HM.out HXL.out HXK.out HNW.out BF0.out ho1 h9.1 (segN_own h91 HNW.out)
    have HWF := Lib.hid hwt
    have x0 := hb2.cell 0
    have x1 := hb2.cell 1
    have x2 := hb2.cell 2
    have z0 := HB4.out.cell 0
    have z1 := HB4.out.cell 1
    have z2 := HB4.out.cell 2
    simp only [ResC, List.getElem?_toArray, List.getElem?_cons_zero, List.getElem?_cons_succ] at x0 x1 x2 z0 z1 z2
    have f0 := HB4.out.frozen 0
    have f1 := HB4.out.frozen 1
    have f2 := HB4.out.frozen 2
    clear hb2 h9 ho h91 ho1 hwt
    have BF := Lib.hid ((((HG.out.bel).setCell (p := ⟨w.heap.size + 1 + 1, 0, none⟩) hg4 (Value.slice Ab T cb)).setCell (p := ⟨w.heap.size + 1 + 1, 1, none⟩) hg4 (Value.slice AV (m + 1) cV)).setCell (p := ⟨w.heap.size + 1 + 1, 2, none⟩) hg4 (.int .i64 (lf - 1)))
    have YF := Lib.hid ((((HB4.out).put 0 (Value.slice Ab T cb)).put 1 (Value.slice AV (m + 1) cV)).put 2 (.int .i64 (lf - 1)))
    go_wp2_with fail
    generalize ((w6.setCell { block := w.heap.size + 1 + 1, off := 0 } (Value.slice Ab T cb)).setCell { block := w.heap.size + 1 + 1, off := 1 } (Value.slice AV (m + 1) cV)).setCell { block := w.heap.size + 1 + 1, off := 2 } (Value.int IntKind.i64 (lf - 1)) = wf at *
    have q0 : wf.cell? ⟨w.heap.size + 1 + 1, 0, none⟩ = some (Value.slice Ab T cb) := by rw [YF.out.cell 0]; rfl
    have q1 : wf.cell? ⟨w.heap.size + 1 + 1, 1, none⟩ = some (Value.slice AV (m + 1) cV) := by rw [YF.out.cell 1]; rfl
    have q2 : wf.cell? ⟨w.heap.size + 1 + 1, 2, none⟩ = some (.int .i64 (lf - 1)) := by rw [YF.out.cell 2]; rfl
    exact bodyPost_ret (v := .tuple #[.agg #[Value.slice Ab T cb, Value.slice AV (m + 1) cV, .int .i64 (lf - 1)], .slice none 0 0, .int .i64 0]) (by simp [results, Try.results17, go_sem, q0, q1, q2]) rfl ⟨Ab, cb, AV, cV, none, 0, by unfold RfV; rw [HREF.out, HWL.out, ← HM.out]; rfl, ⟨by rw [HIMG.out]; exact HH.out.rs.bel BF.out, by rw [HWE.out]; exact HWF.out, HOKF.out⟩, Seg.nil _ _, BF.out⟩
  · obtain rfl : D = D' := by rw [hu] at hD2; exact (Option.some.inj hD2).symm
    have hlz : (lf == 0) = false := by rw [beq_eq_false_iff_ne]; omega
    have hlp : ¬ 0 < lf := by omega
    have HREF := Lib.hid (show refL (D.put n o.data) = lf from HLF.out.symm)
    clear hD2 hu
    go_upto_region 12 with fail
    clear x0 x1 x2 y0 y1 y2 y3 y4 y5 z0 z1 z2 f0 f1 f2 fx2
    have G0 := Lib.hid (show WwG w #[.int .i64 o.kind, .int .i64 (n : Int), .slice A 256 c, .int .u64 (o.keep : Int), .int .i64 o.tear, .int .i64 o.sectors] wC.drew from ⟨(HBC.out).drew, (HX3'.out).drew, (HX4.out).drew⟩)
    have H0 := Lib.hid (show ∀ q, q < 15 → wwH w.heap.size (.slice Ab T cb) (.slice Aw m cw) (.int .i64 (lf)) q wC.drew from fun q _ => by
      unfold wwH
      split
      · exact (HX2.out).drew
      · trivial)
    go_wp2_with fail
    refine wp_region_late [some 51, some 52, some 53, some 54, some 55, some 56, some 57, some 58, some 59, some 60, some 61, some 62, some 63, some 64, none] (fun _ => 0) (wwF w.heap.size w.heap.size (w.heap.size + 1) m cw c n Aw A (.slice Ab T cb) (.int .i64 (lf)) o.data xs) (WwG w #[.int .i64 o.kind, .int .i64 (n : Int), .slice A 256 c, .int .u64 (o.keep : Int), .int .i64 o.tear, .int .i64 o.sectors]) (wwH w.heap.size (.slice Ab T cb) (.slice Aw m cw) (.int .i64 (lf))) (by kernel_rfl) G0.out H0.out rfl (by kernel_rfl) (by kernel_rfl) (by kernel_rfl) (by kernel_rfl) (fun T hT => ?_)
    simp only [List.filterMap_cons, List.filterMap_nil, id, putsS, Act.put, List.setIfInBounds_toArray, List.set_cons_zero, List.set_cons_succ] at hT
    subst hT
    refine ⟨⟨?_, ?_, ?_, ?_, ?_, ?_, ?_, ?_, ?_, ?_, ?_, ?_, ?_, ?_, ?_, trivial⟩, ?_⟩
    · -- 0: Op.buildSlice 30 0 #[]
      intro f w1 hG hO hL hF K hK
      clear hF hO hL
      dsimp only at hK ⊢
      go_simp
      exact hK.out _ _ (hG.next ((Below.refl _ _).alloc (Nat.le_refl _) _)) ⟨w1.heap.size, rfl, hG.bel.size, Bk.new w1 _ _⟩ (fun j _ _ h => wwF_bel ((Below.refl _ _).alloc (Nat.le_refl _) _) j _ _ h) (fun m _ h => wwH_bel ((Below.refl _ _).alloc (Nat.le_refl _) _) m h)
    · -- 1: Op.fieldAddr 32 t2 1
      intro f w1 hG hO hL hF K hK
      clear hF hO hL
      dsimp only at hK ⊢
      go_simp
      exact hK.out _ _ hG rfl (fun _ _ _ h => h) (fun _ _ h => h)
    · -- 2: Op.load 30 t52
      intro f w1 hG hO hL hF K hK
      have l14 : (wwH w.heap.size (.slice Ab T cb) (.slice Aw m cw) (.int .i64 (lf))) 14 w1 := hL 14 (Nat.le_of_ble_eq_true (by kernel_rfl)) (by kernel_rfl)
      have d1 : (wwF w.heap.size w.heap.size (w.heap.size + 1) m cw c n Aw A (.slice Ab T cb) (.int .i64 (lf)) o.data xs) 1 (f 52) (f 0) w1 := hF 1 (by kernel_rfl)
      clear hF hO hL
      dsimp only at hK ⊢
      generalize hf52 : f 52 = v52 at *
      subst d1
      have y := Bk.cell l14 1
      simp only [List.getElem?_toArray, List.getElem?_cons_zero, List.getElem?_cons_succ] at y
      go_simp
      exact hK.out _ _ hG rfl (fun _ _ _ h => h) (fun _ _ h => h)
    · -- 3: Op.call ( builtin append, args := #[t51, t53], argTypes := #[30, 30] )
      intro f w1 hG hO hL hF K hK
      have d0 : (wwF w.heap.size w.heap.size (w.heap.size + 1) m cw c n Aw A (.slice Ab T cb) (.int .i64 (lf)) o.data xs) 0 (f 51) (f 0) w1 := hF 0 (by kernel_rfl)
      have d2 : (wwF w.heap.size w.heap.size (w.heap.size + 1) m cw c n Aw A (.slice Ab T cb) (.int .i64 (lf)) o.data xs) 2 (f 53) (f 0) w1 := hF 2 (by kernel_rfl)
      clear hF hO hL
      dsimp only at hK ⊢
      generalize hf51 : f 51 = v51 at *
      generalize hf53 : f 53 = v53 at *
      have d2 : v53 = .slice Aw m cw := d2
      subst d2
      obtain ⟨ge, rfl, hge, hbk⟩ := d0
      have ho0 : w1.ownsRow w.heap.size 76 2 (.slice (some ⟨ge, 0, none⟩) 0 0) 0 [] := ⟨rfl, .inr ⟨ge, 0, #[], rfl, hge, hbk, Nat.le_refl _, by decide, rfl, rfl⟩⟩
      by_cases hz : m = 0
      · have hxs : xs = [] := List.eq_nil_of_length_eq_zero (by have := HXL.out; omega)
        have hrun := run_append_none (P := Try.prog) w1 w.heap.size 30 30 76 k0 Try.underlying30 hk0 (.slice (some ⟨ge, 0, none⟩) 0 0) 0 2 [] ho0 Aw cw
        refine Lib.wp_append_run w1 _ _ _ _ rfl _ _ rfl (show _ = Value.slice Aw 0 cw by rw [← hz]; rfl) _ w1 hrun (hK.out _ _ hG ⟨ge, 0, by rw [hz]; rfl, fun _ => rfl, by rw [hz, hxs]; exact ho0⟩ (fun _ _ _ h => h) (fun _ _ h => h))
      · obtain ⟨ad, hAd, hcs⟩ := HXC.out (by omega)
        obtain ⟨v', w2', hrun, hown, _, _, hbb, hor⟩ := run_append_two (P := Try.prog) w1 w.heap.size 30 30 76 k0 _ 2 32 Try.underlying30 hk0 hk1 hk2' hk3' rfl ge 0 0 [] ho0 ad m cw xs HXL.out (fun j u hu => hcs w1 hG.bel j u hu) HX1.out (by omega) (by simp only [maxLen]; omega) (by omega) hG.bel.size
        have hb2 : Below w1.heap.size w1 w2' := by
          rcases hor with h | ⟨h, _⟩
          · exact h
          · omega
        rw [Nat.zero_add, List.nil_append] at hown
        obtain ⟨g2, c2, rfl, _, _⟩ := hown.form (by omega)
        refine Lib.wp_append_run w1 _ _ _ _ rfl _ _ rfl (by rw [hAd]; rfl) _ w2' hrun (hK.out _ _ (hG.next hb2) ⟨g2, c2, rfl, fun h => absurd h hz, hown⟩ (fun j _ _ h => wwF_bel hb2 j _ _ h) (fun m _ h => wwH_bel hb2 m h))
    · -- 4: Op.fieldAddr 36 t3 1
      intro f w1 hG hO hL hF K hK
      clear hF hO hL
      dsimp only at hK ⊢
      go_simp
      exact hK.out _ _ hG rfl (fun _ _ _ h => h) (fun _ _ h => h)
    · -- 5: Op.load 3 t55
      intro f w1 hG hO hL hF K hK
      have d4 : (wwF w.heap.size w.heap.size (w.heap.size + 1) m cw c n Aw A (.slice Ab T cb) (.int .i64 (lf)) o.data xs) 4 (f 55) (f 0) w1 := hF 4 (by kernel_rfl)
      clear hF hO hL
      dsimp only at hK ⊢
      generalize hf55 : f 55 = v55 at *
      subst d4
      have y := hG.b3.cell 1
      simp only [List.getElem?_toArray, List.getElem?_cons_zero, List.getElem?_cons_succ] at y
      go_simp
      exact hK.out _ _ hG rfl (fun _ _ _ h => h) (fun _ _ h => h)
    · -- 6: Op.buildSlice 26 0 #[]
      intro f w1 hG hO hL hF K hK
      clear hF hO hL
      dsimp only at hK ⊢
      go_simp
      exact hK.out _ _ (hG.next ((Below.refl _ _).alloc (Nat.le_refl _) _)) ⟨w1.heap.size, rfl, hG.bel.size, Bk.new w1 _ _⟩ (fun j _ _ h => wwF_bel ((Below.refl _ _).alloc (Nat.le_refl _) _) j _ _ h) (fun m _ h => wwH_bel ((Below.refl _ _).alloc (Nat.le_refl _) _) m h)
    · -- 7: Op.fieldAddr 36 t3 2
      intro f w1 hG hO hL hF K hK
      clear hF hO hL
      dsimp only at hK ⊢
      go_simp
      exact hK.out _ _ hG rfl (fun _ _ _ h => h) (fun _ _ h => h)
    · -- 8: Op.load 26 t58
      intro f w1 hG hO hL hF K hK
      have d7 : (wwF w.heap.size w.heap.size (w.heap.size + 1) m cw c n Aw A (.slice Ab T cb) (.int .i64 (lf)) o.data xs) 7 (f 58) (f 0) w1 := hF 7 (by kernel_rfl)
      clear hF hO hL
      dsimp only at hK ⊢
      generalize hf58 : f 58 = v58 at *
      subst d7
      have y := hG.b3.cell 2
      simp only [List.getElem?_toArray, List.getElem?_cons_zero, List.getElem?_cons_succ] at y
      go_simp
      exact hK.out _ _ hG rfl (fun _ _ _ h => h) (fun _ _ h => h)
    · -- 9: Op.call ( builtin append, args := #[t57, t59], argTypes := #[26, 26] )
      intro f w1 hG hO hL hF K hK
      have d6 : (wwF w.heap.size w.heap.size (w.heap.size + 1) m cw c n Aw A (.slice Ab T cb) (.int .i64 (lf)) o.data xs) 6 (f 57) (f 0) w1 := hF 6 (by kernel_rfl)
      have d8 : (wwF w.heap.size w.heap.size (w.heap.size + 1) m cw c n Aw A (.slice Ab T cb) (.int .i64 (lf)) o.data xs) 8 (f 59) (f 0) w1 := hF 8 (by kernel_rfl)
      clear hF hO hL
      dsimp only at hK ⊢
      generalize hf57 : f 57 = v57 at *
      generalize hf59 : f 59 = v59 at *
      have d8 : v59 = .slice A 256 c := d8
      subst d8
      obtain ⟨ge, rfl, hge, hbk⟩ := d6
      obtain ⟨v', w2', hrun, hown, hbel⟩ := run_append_empty (P := Try.prog) w1 w.heap.size 26 26 5 j0 _ 1 Try.underlying26 hj0 hi0 hi1 hi2 rfl ge hge hbk A 256 c (u8s o.data) (by rw [u8s_length]; exact HDL2.out.symm) (HSL.out.below (Nat.le_refl _) hG.bel) (u8s_one _) (by simp only [maxLen]; omega) (by omega)
      obtain ⟨A6, c6, rfl, hc6, _⟩ := own_shape hown
      refine Lib.wp_append_run w1 _ _ _ _ rfl _ _ rfl rfl _ w2' hrun (hK.out _ _ (hG.next hbel) ⟨A6, c6, rfl, hc6, hown⟩ (fun j _ _ h => wwF_bel hbel j _ _ h) (fun m _ h => wwH_bel hbel m h))
    · -- 10: Op.build 76 #[(0, t56), (1, t60)]
      intro f w1 hG hO hL hF K hK
      have d5 : (wwF w.heap.size w.heap.size (w.heap.size + 1) m cw c n Aw A (.slice Ab T cb) (.int .i64 (lf)) o.data xs) 5 (f 56) (f 0) w1 := hF 5 (by kernel_rfl)
      have d9 : (wwF w.heap.size w.heap.size (w.heap.size + 1) m cw c n Aw A (.slice Ab T cb) (.int .i64 (lf)) o.data xs) 9 (f 60) (f 0) w1 := hF 9 (by kernel_rfl)
      clear hF hO hL
      dsimp only at hK ⊢
      generalize hf56 : f 56 = v56 at *
      generalize hf60 : f 60 = v60 at *
      subst d5
      obtain ⟨A9, c9, rfl, h9⟩ := d9
      go_simp
      exact hK.out _ _ hG ⟨A9, c9, rfl, h9⟩ (fun _ _ _ h => h) (fun _ _ h => h)
    · -- 11: Op.buildSlice 30 1 #[(0, t61)]
      intro f w1 hG hO hL hF K hK
      have d10 : (wwF w.heap.size w.heap.size (w.heap.size + 1) m cw c n Aw A (.slice Ab T cb) (.int .i64 (lf)) o.data xs) 10 (f 61) (f 0) w1 := hF 10 (by kernel_rfl)
      clear hF hO hL
      dsimp only at hK ⊢
      generalize hf61 : f 61 = v61 at *
      obtain ⟨A9, c9, rfl, h9⟩ := d10
      go_simp
      exact hK.out _ _ (hG.next ((Below.refl _ _).alloc (Nat.le_refl _) _)) ⟨w1.heap.size, A9, c9, rfl, h9.bel ((Below.refl _ _).alloc (Nat.le_refl _) _), Bk.new w1 _ _⟩ (fun j _ _ h => wwF_bel ((Below.refl _ _).alloc (Nat.le_refl _) _) j _ _ h) (fun m _ h => wwH_bel ((Below.refl _ _).alloc (Nat.le_refl _) _) m h)
    · -- 12: Op.call ( builtin append, args := #[t54, t62], argTypes := #[30, 30] )
      intro f w1 hG hO hL hF K hK
      have d3 : (wwF w.heap.size w.heap.size (w.heap.size + 1) m cw c n Aw A (.slice Ab T cb) (.int .i64 (lf)) o.data xs) 3 (f 54) (f 0) w1 := hF 3 (by kernel_rfl)
      have d11 : (wwF w.heap.size w.heap.size (w.heap.size + 1) m cw c n Aw A (.slice Ab T cb) (.int .i64 (lf)) o.data xs) 11 (f 62) (f 0) w1 := hF 11 (by kernel_rfl)
      clear hF hO hL
      dsimp only at hK ⊢
      generalize hf54 : f 54 = v54 at *
      generalize hf62 : f 62 = v62 at *
      obtain ⟨g, cap, hv54, hm0, ho3⟩ := d3
      subst hv54
      obtain ⟨gl, A9, c9, rfl, h9, hbk⟩ := d11
      have hcb : ∀ j u, [Value.int .i64 (n : Int), Value.slice A9 256 c9][j]? = some u → w1.cell? ((⟨gl, 0, none⟩ : Addr).add j) = some u := fun j u hu => by
        rw [addr_add, hbk.cell j]; simpa using hu
      obtain ⟨v', w2', hrun, hown, hold, hkept, hbb, hor⟩ := run_append_two (P := Try.prog) w1 w.heap.size 30 30 76 k0 _ 2 32 Try.underlying30 hk0 hk1 hk2' hk3' rfl g m cap xs ho3 ⟨gl, 0, none⟩ 1 1 [Value.int .i64 (n : Int), Value.slice A9 256 c9] rfl hcb (by intro u hu; simp only [List.mem_cons, List.not_mem_nil, or_false] at hu; rcases hu with rfl | rfl <;> rfl) (by omega) (by simp only [maxLen]; omega) (by omega) hG.bel.size
      rcases hor with hb2 | ⟨hroom, cur, hcur, hcs, _⟩
      · refine Lib.wp_append_run w1 _ _ _ _ rfl _ _ rfl rfl _ w2' hrun (hK.out _ _ (hG.next hb2) ⟨A9, c9, h9.bel hb2, hown⟩ (fun j _ _ h => wwF_bel hb2 j _ _ h) (fun m _ h => wwH_bel hb2 m h))
      · have hcu : Bk w1 g 76 cur := hcur
        have h4 : 4 ≤ cur.size := by
          have : m ≠ 0 := fun h => by have := hm0 h; omega
          omega
        have neT : ∀ {b : Nat} {t : TypeId} {cs : Array Value}, Bk w1 b t cs → t ≠ 76 → b ≠ g := fun {b t cs} hb ht e => by
          subst e
          unfold Bk at hb hcu
          rw [hb] at hcu
          injection hcu with hcu
          injection hcu with _ hcu
          exact ht hcu
        refine Lib.wp_append_run w1 _ _ _ _ rfl _ _ rfl rfl _ w2' hrun (hK.out _ _ ⟨hG.bel.trans hbb, (hkept.block _ hG.b3.lt (neT hG.b3 (by decide))).trans hG.b3, (hkept.block _ hG.b4.lt (neT hG.b4 (by decide))).trans hG.b4⟩ ⟨A9, c9, h9.kept hkept hcu, hown⟩ ?_ ?_)
        · intro j hj hdep h
          by_cases h14 : j = 14
          · subst h14
            exact absurd hdep (by rw [show depS _ 14 12 = true by kernel_rfl]; decide)
          · exact wwF_two hkept hcu h4 hold j hj h14 _ _ (fun e => by subst e; exact hf54) hm0 h
        · intro m2 hm2 h
          unfold wwH at *
          split at h
          · exact (hkept.block _ (Bk.lt h) (neT h (by decide))).trans h
          · trivial
    · -- 13: Op.fieldAddr 32 t2 1
      intro f w1 hG hO hL hF K hK
      clear hF hO hL
      dsimp only at hK ⊢
      go_simp
      exact hK.out _ _ hG rfl (fun _ _ _ h => h) (fun _ _ h => h)
    · -- 14: Op.store 30 t64 t63
      intro f w1 hG hO hL hF K hK
      have l14 : (wwH w.heap.size (.slice Ab T cb) (.slice Aw m cw) (.int .i64 (lf))) 14 w1 := hL 14 (Nat.le_of_ble_eq_true (by kernel_rfl)) (by kernel_rfl)
      have d13 : (wwF w.heap.size w.heap.size (w.heap.size + 1) m cw c n Aw A (.slice Ab T cb) (.int .i64 (lf)) o.data xs) 13 (f 64) (f 0) w1 := hF 13 (by kernel_rfl)
      have d12 : (wwF w.heap.size w.heap.size (w.heap.size + 1) m cw c n Aw A (.slice Ab T cb) (.int .i64 (lf)) o.data xs) 12 (f 63) (f 0) w1 := hF 12 (by kernel_rfl)
      clear hF hO hL
      dsimp only at hK ⊢
      generalize hf64 : f 64 = v64 at *
      generalize hf63 : f 63 = v63 at *
      subst d13
      obtain ⟨A9, c9, h9, ho12⟩ := d12
      obtain ⟨g12, c12, rfl, _, _⟩ := ho12.form (by omega)
      have L14 := Lib.hid (show Bk w1 w.heap.size 32 #[.slice Ab T cb, .slice Aw m cw, .int .i64 (lf)] from l14)
      have y1 := L14.out.cell 1
      have fy1 := L14.out.frozen 1
      simp only [List.getElem?_toArray, List.getElem?_cons_zero, List.getElem?_cons_succ] at y1
      have HG := Lib.hid hG
      have H9 := Lib.hid h9
      have HO := Lib.hid ho12
      have hne3 : w.heap.size + 1 ≠ w.heap.size := by omega
      have hne4 : w.heap.size + 1 + 1 ≠ w.heap.size := by omega
      clear l14 hG h9 ho12
      go_simp
      refine hK.out undef _ ⟨HG.out.bel.setCell (Nat.le_refl _) _, HG.out.b3.far hne3 _, HG.out.b4.far hne4 _⟩ ⟨_, A9, c9, L14.out.put 1 _, ⟨H9.out.1, ownsRow_setCell_other H9.out.2 (own_neV H9.out.2 L14.out (by decide)) _⟩, ownsRow_setCell_other HO.out (own_neV HO.out L14.out (by decide)) _⟩ (fun j hj _ h => wwF_set L14.out j hj _ _ h) ?_
      intro m2 hm2 h
      unfold wwH at *
      split at h
      · exact absurd rfl hm2
      · trivial
    intro f w6 hG hF
    obtain ⟨V, A9, c9, hb2, h9, ho⟩ : ∃ (V : Value) (A9 : Option Addr) (c9 : Nat), Bk w6 w.heap.size 32 #[.slice Ab T cb, V, .int .i64 (lf)] ∧ Own9 w.heap.size o.data A9 c9 w6 ∧ w6.ownsRow w.heap.size 76 2 V (m + 1) (xs ++ [Value.int .i64 (n : Int), Value.slice A9 256 c9]) := hF 14 (by decide)
    have HG := Lib.hid hG
    clear hF hG
    dsimp only
    generalize f 51 = v51
    generalize f 52 = v52
    generalize f 53 = v53
    generalize f 54 = v54
    generalize f 55 = v55
    generalize f 56 = v56
    generalize f 57 = v57
    generalize f 58 = v58
    generalize f 59 = v59
    generalize f 60 = v60
    generalize f 61 = v61
    generalize f 62 = v62
    generalize f 63 = v63
    generalize f 64 = v64
    have BF0 := Lib.hid ((((HG.out.bel).setCell (p := ⟨w.heap.size + 1 + 1, 0, none⟩) hg4 (.slice Ab T cb)).setCell (p := ⟨w.heap.size + 1 + 1, 1, none⟩) hg4 V).setCell (p := ⟨w.heap.size + 1 + 1, 2, none⟩) hg4 (.int .i64 (lf)))
    have HB4 := Lib.hid HG.out.b4
    have h91 := (ownsRow_setCell_other (ownsRow_setCell_other (ownsRow_setCell_other h9.2 (own_neV h9.2 HB4.out (by decide)) (a := ⟨w.heap.size + 1 + 1, 0, none⟩) (.slice Ab T cb)) (own_neV h9.2 HB4.out (by decide)) (a := ⟨w.heap.size + 1 + 1, 1, none⟩) V) (own_neV h9.2 HB4.out (by decide)) (a := ⟨w.heap.size + 1 + 1, 2, none⟩) (.int .i64 (lf)))
    have ho1 := (ownsRow_setCell_other (ownsRow_setCell_other (ownsRow_setCell_other ho (own_neV ho HB4.out (by decide)) (a := ⟨w.heap.size + 1 + 1, 0, none⟩) (.slice Ab T cb)) (own_neV ho HB4.out (by decide)) (a := ⟨w.heap.size + 1 + 1, 1, none⟩) V) (own_neV ho HB4.out (by decide)) (a := ⟨w.heap.size + 1 + 1, 2, none⟩) (.int .i64 (lf)))
    obtain ⟨AV, cV, rfl, hwt⟩ := wt_of_own HM.out HXL.out HXK.out HNW.out BF0.out ho1 h9.1 (segN_own h91 HNW.out)
    have HWF := Lib.hid hwt
    have x0 := hb2.cell 0
    have x1 := hb2.cell 1
    have x2 := hb2.cell 2
    have z0 := HB4.out.cell 0
    have z1 := HB4.out.cell 1
    have z2 := HB4.out.cell 2
    simp only [ResC, List.getElem?_toArray, List.getElem?_cons_zero, List.getElem?_cons_succ] at x0 x1 x2 z0 z1 z2
    have f0 := HB4.out.frozen 0
    have f1 := HB4.out.frozen 1
    have f2 := HB4.out.frozen 2
    clear hb2 h9 ho h91 ho1 hwt
    have BF := Lib.hid ((((HG.out.bel).setCell (p := ⟨w.heap.size + 1 + 1, 0, none⟩) hg4 (Value.slice Ab T cb)).setCell (p := ⟨w.heap.size + 1 + 1, 1, none⟩) hg4 (Value.slice AV (m + 1) cV)).setCell (p := ⟨w.heap.size + 1 + 1, 2, none⟩) hg4 (.int .i64 (lf)))
    have YF := Lib.hid ((((HB4.out).put 0 (Value.slice Ab T cb)).put 1 (Value.slice AV (m + 1) cV)).put 2 (.int .i64 (lf)))
    go_wp2_with fail
    generalize ((w6.setCell { block := w.heap.size + 1 + 1, off := 0 } (Value.slice Ab T cb)).setCell { block := w.heap.size + 1 + 1, off := 1 } (Value.slice AV (m + 1) cV)).setCell { block := w.heap.size + 1 + 1, off := 2 } (Value.int IntKind.i64 (lf)) = wf at *
    have q0 : wf.cell? ⟨w.heap.size + 1 + 1, 0, none⟩ = some (Value.slice Ab T cb) := by rw [YF.out.cell 0]; rfl
    have q1 : wf.cell? ⟨w.heap.size + 1 + 1, 1, none⟩ = some (Value.slice AV (m + 1) cV) := by rw [YF.out.cell 1]; rfl
    have q2 : wf.cell? ⟨w.heap.size + 1 + 1, 2, none⟩ = some (.int .i64 (lf)) := by rw [YF.out.cell 2]; rfl
    exact bodyPost_ret (v := .tuple #[.agg #[Value.slice Ab T cb, Value.slice AV (m + 1) cV, .int .i64 (lf)], .slice none 0 0, .int .i64 0]) (by simp [results, Try.results17, go_sem, q0, q1, q2]) rfl ⟨Ab, cb, AV, cV, none, 0, by unfold RfV; rw [HREF.out, HWL.out, ← HM.out]; rfl, ⟨by rw [HIMG.out]; exact HH.out.rs.bel BF.out, by rw [HWE.out]; exact HWF.out, HOKF.out⟩, Seg.nil _ _, BF.out⟩
end Go.Proofs.Ytmgbmnbjionapaa
