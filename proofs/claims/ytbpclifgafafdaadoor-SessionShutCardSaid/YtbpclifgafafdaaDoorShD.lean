/- The first events taken out of a row of one's own; a copy of some events. Condition: they lie in memory. -/
import Derived.Test.YtbpclifgafafdaaDoorShP
import Derived.WalkLawsBesides
import Derived.Deep.RegionLaw
import Derived.Shelf.RegionOpenPlain
import Derived.Deep.LoopGhost
import Derived.Lib.Walk
import Derived.Sort.WalkB12
import Derived.Lib.SliceRun
import Derived.Laws.AppendOwn
import Derived.Shelf.SlicesE.Clone
namespace Go.Proofs.YtbpclifgafafdaaDoor
open Go.RowKit Go.Shelf

def eRen : Ren where
  f := fun n => if n = 41 then 14 else n
  t := fun n => if n = 4 then 4 else if n = 22 then 39 else if n = 23 then 38 else n
  g := fun n => n
theorem laysE41 : SlLaysE0.n41 Tryd.prog eRen := by
  constructor
  case f41 => exact ⟨Tryd.f14.name, by kernel_rfl, by kernel_rfl⟩
  all_goals first | kernel_rfl | (intro w; kernel_rfl)
theorem keep_puts {g : Nat} : ∀ (vs : List Value) (o : Nat) (w : World) (b : Nat), b ≠ g → (w.setCells g o vs).heap[b]? = w.heap[b]?
  | [], _, _, _, _ => rfl
  | v :: r, o, w, b, h => (keep_puts r (o + 1) _ b h).trans (Below.heap_setCell w ⟨g, o, none⟩ v b h)
theorem below_puts {B g : Nat} (hg : B ≤ g) : ∀ (vs : List Value) (o : Nat) (w : World), Below B w (w.setCells g o vs)
  | [], _, w => Below.refl B w
  | v :: r, o, w => ((Below.refl B w).setCell (p := ⟨g, o, none⟩) hg v).trans (below_puts hg r (o + 1) _)
theorem Kept1.puts {g : Nat} {w0 : World} : ∀ (vs : List Value) (o : Nat) {w : World}, Kept1 g w0 w → Kept1 g w0 (w.setCells g o vs)
  | [], _, _, h => h
  | v :: r, o, w, h => Kept1.puts r (o + 1) (h.trans (Kept1.set w g o v))
/-- A block of as many cells as before. -/
theorem Bk.putsAny {g : Nat} {t : TypeId} : ∀ (vs : List Value) (o : Nat) {w : World} {cs : Array Value}, Bk w g t cs → ∃ cs', cs'.size = cs.size ∧ Bk (w.setCells g o vs) g t cs'
  | [], _, _, cs, h => ⟨cs, rfl, h⟩
  | v :: r, o, _, cs, h => by
    obtain ⟨c2, e, h2⟩ := Bk.putsAny r (o + 1) (h.put o v)
    exact ⟨c2, by rw [e]; simp, h2⟩
theorem rowz_cells {w : World} {B n g cap z : Nat} {e : TypeId} {xs : List Value} (h : w.ownsRow B e z (.slice (some ⟨g, 0, none⟩) n cap) n xs) : ∃ cur, Bk w g e cur ∧ n ≤ cap ∧ cap ≤ maxLen ∧ cur.size = cap * z ∧ cur.toList.take (n * z) = xs ∧ B ≤ g := by
  rcases h.2 with ⟨h1, _⟩ | ⟨g', cap', cur, h1, hb, hc, hnc, hm, hs, ht⟩
  · cases h1
  · simp only [Value.slice.injEq, Option.some.injEq, Addr.mk.injEq, and_true, true_and] at h1
    obtain ⟨rfl, rfl⟩ := h1
    exact ⟨cur, hc, hnc, hm, hs, ht, hb⟩
/-- The cells that are cleared. -/
def zEv (k : Nat) : List Value := (Builtin.zeroCells (Value.agg #[.int .i64 0, .int .i64 0, .string ⟨#[]⟩]).cells k).toList
theorem zEv_length (k : Nat) : (zEv k).length = k * 3 := by
  unfold zEv
  rw [Array.length_toList, size_zeroCells]; rfl
theorem zEv_one (k : Nat) : ∀ u ∈ zEv k, u.oneCell' = true := by
  intro u hu
  unfold zEv Builtin.zeroCells at hu
  have hz : (Value.agg #[.int .i64 0, .int .i64 0, .string ⟨#[]⟩]).cells = #[.int .i64 0, .int .i64 0, .string ⟨#[]⟩] := rfl
  rw [hz] at hu
  simp only [Array.toList_map, List.mem_map] at hu
  obtain ⟨i, hi, rfl⟩ := hu
  have h3 : i % (#[Value.int .i64 0, .int .i64 0, .string ⟨#[]⟩]).size < 3 := Nat.mod_lt _ (by decide)
  generalize i % (#[Value.int .i64 0, .int .i64 0, .string ⟨#[]⟩]).size = m at *
  match m, h3 with
  | 0, _ => rfl
  | 1, _ => rfl
  | 2, _ => rfl
theorem run_clear_ev (w : World) (ty : TypeId) (k b o c : Nat) (hk : 0 < k)
    (hc : ∀ j, j < k * 3 → (w.cell? ⟨b, o + j, none⟩).isSome = true) (hf : ∀ j, j < k * 3 → w.frozen? ⟨b, o + j, none⟩ = false) :
    (Builtin.clear_ #[39] ty #[.slice (some ⟨b, o, none⟩) k c]).run Tryd.prog w = .ok (.tuple #[]) (w.setCells b o (zEv k)) := by
  have hst := run_storeCells_cells (P := Tryd.prog) b o (zEv k) 0 w (by rw [zEv_length]; simpa using hc) (by rw [zEv_length]; simpa using hf) (zEv_one k)
  simp only [Nat.add_zero] at hst
  obtain ⟨m, rfl⟩ : ∃ m, k = m + 1 := ⟨k - 1, by omega⟩
  unfold zEv at hst ⊢
  simp [Builtin.clear_, run_underlying Tryd.underlying39, Tryd.zeroValue38, hst]
set_option maxRecDepth 100000 in
set_option maxHeartbeats 4000000 in
/-- The first k are taken out. -/
theorem del_any (B g n cap k : Nat) (xs : List Value) (w : World) (hown : w.ownsRow B 38 3 (.slice (some ⟨g, 0, none⟩) n cap) n xs) (hx : ∀ u ∈ xs, u.oneCell' = true) (hk0 : 0 < k) (hkn : k ≤ n) :
    Calls Tryd.prog 15 #[.slice (some ⟨g, 0, none⟩) n cap, .int .i64 0, .int .i64 (k : Nat)] w fun e w' => e = .returned (.slice (some ⟨g, 0, none⟩) (n - k) cap) ∧ Kept1 g w w' ∧ Below B w w' := by
  obtain ⟨i0, hi0, _, hz3, _⟩ := info_parts info_ev
  obtain ⟨cur, hb, hnc, hcm, hcs, htk, hBg⟩ := rowz_cells hown
  have hln : xs.length = n * 3 := hown.1
  have hmx : cap ≤ 9223372036854775807 := by unfold maxLen at hcm; omega
  obtain ⟨news, hnews⟩ : ∃ news, news = xs.drop (k * 3) := ⟨_, rfl⟩
  have hlen : news.length = (n - k) * 3 := by rw [hnews, List.length_drop, hln]; omega
  obtain ⟨A, hA, hsrc⟩ : ∃ A : Addr, (if cap = k then some (⟨g, 0, none⟩ : Addr) else some ⟨g, k * 3, none⟩) = some A ∧ Hid (∀ t u, news[t]? = some u → w.drew.cell? (A.add t) = some u) := by
    by_cases h : cap = k
    · refine ⟨⟨g, 0, none⟩, by simp [h], fun t u hu => ?_⟩
      have h0 : news.length = 0 := by rw [hlen]; omega
      rw [List.length_eq_zero_iff.1 h0] at hu
      simp at hu
    · refine ⟨⟨g, k * 3, none⟩, by simp [h], fun t u hu => ?_⟩
      have ht : t < (n - k) * 3 := by
        have := (List.getElem?_eq_some_iff.1 hu).1
        rwa [hlen] at this
      rw [Addr.add_lit]
      show w.cell? _ = some u
      rw [hb.cell, ← hu, hnews, List.getElem?_drop, ← htk, List.getElem?_take, if_pos (by omega), Array.getElem?_toList]
  have s2 : Hid (∀ u ∈ news, u.oneCell' = true) := Lib.hid (fun u hu => hx u (by rw [hnews] at hu; exact List.mem_of_mem_drop hu))
  have hcell : ∀ t, t < cap * 3 → (w.cell? ⟨g, t, none⟩).isSome = true := fun t ht => by rw [hb.cell]; simp [hcs, ht]
  have s3 : Hid (∀ t, t < news.length → (w.drew.cell? ⟨g, 0 + 0 * 3 + t, none⟩).isSome = true ∧ w.drew.frozen? ⟨g, 0 + 0 * 3 + t, none⟩ = false) := by
    intro t ht
    rw [hlen] at ht
    rw [Nat.zero_mul, Nat.zero_add]
    exact ⟨hcell _ (by omega), hb.frozen _⟩
  obtain ⟨W1, hW1⟩ : ∃ W1, W1 = w.drew.setCells g (0 + 0 * 3) news := ⟨_, rfl⟩
  obtain ⟨cur1, hcs1, hb1⟩ : ∃ cs', cs'.size = cur.size ∧ Bk W1 g 38 cs' := by rw [hW1]; exact Bk.putsAny news _ (w := w.drew) hb
  have hcl : ∀ ty, (Builtin.clear_ #[39] ty #[.slice (some ⟨g, (n - k) * 3, none⟩) k (cap - (n - k))]).run Tryd.prog W1 = .ok (.tuple #[]) (W1.setCells g ((n - k) * 3) (zEv k)) :=
    fun ty => run_clear_ev W1 ty k g ((n - k) * 3) _ hk0 (fun j hj => by rw [hb1.cell]; simp [hcs1, hcs]; omega) (fun j _ => hb1.frozen _)
  have hfin := Lib.hid (show Kept1 g w (W1.setCells g ((n - k) * 3) (zEv k)) ∧ Below B w (W1.setCells g ((n - k) * 3) (zEv k)) by
    rw [hW1]
    exact ⟨Kept1.puts _ _ (Kept1.puts _ _ (Kept1.of_below (Below.refl _ _).drew)), ((Below.refl B w).drew.trans (below_puts hBg _ _ _)).trans (below_puts hBg _ _ _)⟩)
  have hW : Hid (W1 = w.drew.setCells g (0 + 0 * 3) news) := hW1
  have s1 := Lib.hid hlen
  have hkc : k ≤ cap := by omega
  have mixed : Tryd.prog.follows .mixedOrders = true := by kernel_rfl
  have e2 : n - (n - k) = k := by omega
  have e3 : ¬ cap = n - k := by omega
  have hI2 : (k : Int) ≤ (n : Int) := by omega
  have hk1 : ¬ (k : Nat) = 0 := by omega
  have hk2 : ((0 : Int) == (k : Int)) = false := by rw [beq_eq_false_iff_ne]; omega
  clear hW1 hb1 hnews hlen hb hcell htk hcs hown hln hcs1 hx
  go_enter Tryd.func15, Tryd.ntmps15
  go_wp2_with fail
  go_region_law_o (refine step_append_room rfl (.tmp 22) (.tmp 25) 39 rfl 38 i0 3 Tryd.underlying39 hi0 hz3 g 0 0 cap (by simp [Act.eval, Act.put]) A (n - k) (cap - k) news (by simp [Act.eval, Act.put]) s1.out hsrc.out s2.out (by omega) s3.out ?_; rw [← hW.out])
  go_wp2
  go_ret
  exact ⟨rfl, hfin.out⟩
end Go.Proofs.YtbpclifgafafdaaDoor
