/- An argument that is a row of rows of bytes, opened; and the size of what it holds. No condition. -/
import Derived.Test.YtpkajmgfechhhaaDoorChain
import Derived.Deep.Matrix
import Derived.SizedLaws
import Derived.OpenShut
import Derived.Carry
namespace Go.Proofs.YtpkajmgfechhhaaDoor
open Go.ChangeShapes Go.WideShapes Go.ChangeAt Go.RowKit Go.Deep

theorem weights_all {H : Type} {P : Program} {e : TypeId} {d : DataW H} {n : Nat} (hn : n ∈ DataW.weights P e d) : ∀ (ds : List (DataW H)), d ∈ ds → n ∈ DataW.weightsAll P e ds
  | [], h => by simp at h
  | x :: r, h => by
    rcases List.mem_cons.1 h with rfl | h
    · simp only [DataW.weightsAll]
      exact List.mem_append_left _ hn
    · simp only [DataW.weightsAll]
      exact List.mem_append_right _ (weights_all hn r h)
theorem ints_seg {w : World} {a : Addr} {k : IntKind} {zs : List Int} {n : Nat} (h : ∀ i, i < zs.length → w.cell? (a.add i) = some (.int k (zs.getD i 0))) : Seg w (some a) ((zs.take n).map (Value.int k)) := fun hn => by
  have hpos : 0 < zs.length := by
    rcases zs with _ | ⟨z, zs⟩
    · simp at hn
    · simp
  obtain ⟨b, off, rfl, hc⟩ := ints_at h hpos
  have hb := World.block_lt_of_cell? w _ (hc 0 hpos)
  refine ⟨b, off, rfl, hb, fun i hi => ?_⟩
  have hi' : i < n ∧ i < zs.length := by simp at hi; omega
  rw [hc i hi'.2]
  simp [hi'.1, hi'.2]
theorem open_rows {H : Type} {enc : TypeId × Value → H} {P : Program} {W : World} {t e q : TypeId} {a0 : Option Addr} {len0 cap0 : Nat} {d : DataW H} {ps : List MemPlace}
    (ht : P.underlying t = some (.slice e)) (he : P.underlying e = some (.slice q)) (hq : P.underlying q = some (.int .u8)) (ce : P.cellsOf e = 1) (cq : P.cellsOf q = 1) (hbq : P.bytesOf q = 1)
    (h : DataW.Trod enc P W 0 (fun _ => true) true t (.slice a0 len0 cap0) d ps) (hwt : ∀ n, n ∈ DataW.weights P t d → n ≤ reachBytes) : ∃ bs : List (List Nat), len0 = bs.length ∧ RowsIn W a0 bs := by
  obtain ⟨fuel, hf⟩ := h
  rcases open_int_rows ht he hq ce cq hf with ⟨hcs, _⟩ | ⟨a, len, cap, A, L, C, Z, hcs, _, hlc, hcm, hx, hrow⟩
  · simp [Value.cells] at hcs
    obtain ⟨rfl, rfl, rfl⟩ := hcs
    exact ⟨[], rfl, [], rfl, Seg.nil _ _, fun i hi => by simp at hi⟩
  · simp [Value.cells] at hcs
    obtain ⟨rfl, rfl, rfl⟩ := hcs
    simp only [Prod.mk.injEq] at hx
    obtain ⟨hd, _⟩ := hx
    refine ⟨(List.range len0).map fun r => ((Z r).take (L r)).map Int.toNat, by simp, (List.range len0).map fun r => Value.slice (A r) (L r) (C r), by simp, ?_, fun i hi => ?_⟩
    · intro hn
      have hpos : 0 < len0 := by
        rcases len0 with _ | n
        · simp at hn
        · omega
      obtain ⟨b, off, spot⟩ := a
      have h0 := (hrow 0 (by omega)).1
      have hspot : spot = none := by simpa [Addr.add] using World.cell?_spot h0
      subst hspot
      have hb := World.block_lt_of_cell? W _ h0
      refine ⟨b, off, rfl, by simpa [Addr.add] using hb, fun j hj => ?_⟩
      have hj' : j < len0 := by simpa using hj
      rw [← Go.WideShapes.add_plain, (hrow j (by omega)).1]
      simp [hj']
    · have hi' : i < len0 := by simpa using hi
      obtain ⟨r1, r2, r3, r4, r5, r6, r7⟩ := hrow i (by omega)
      have eg : ((List.range len0).map fun r => ((Z r).take (L r)).map Int.toNat).getD i [] = ((Z i).take (L i)).map Int.toNat := by
        simp [List.getD, hi']
      rw [eg]
      obtain ⟨l, hl, hl2⟩ := nats_of_u8 (zs := (Z i).take (L i)) (fun z hz => r5 z (List.mem_of_mem_take hz))
      have hl3 : ((Z i).take (L i)).map Int.toNat = l := by
        rw [hl, List.map_map, show (Int.toNat ∘ fun (x : Nat) => (x : Int)) = id from funext fun x => Int.toNat_natCast x, List.map_id]
      have hll : l.length = L i := by
        have := congrArg List.length hl
        simp at this
        omega
      rw [hl3]
      refine ⟨A i, L i, C i, by simp [hi'], hll.symm, r2, ?_, ?_, hl2⟩
      · rcases hA : A i with _ | a'
        · have := r6 hA
          omega
        · have h1 := hwt (((lits (H := H) .u8 ((Z i).take (L i))).length + (lits (H := H) .u8 ((Z i).drop (L i))).length) * P.bytesOf q) (by
            rw [hd]
            simp only [DataW.weights, ht]
            refine List.mem_cons_of_mem _ (List.mem_append_left _ ?_)
            refine weights_all (d := intRow .u8 (A i) (L i) (Z i)) ?_ _ (List.mem_map.2 ⟨i, List.mem_range.2 hi', rfl⟩)
            rw [hA]
            simp [intRow, DataW.weights, he])
          rw [hbq] at h1
          simp only [lits, List.length_map, List.length_take, List.length_drop, reachBytes] at h1
          omega
      · rcases hA : A i with _ | a'
        · have : L i = 0 := by have := r6 hA; omega
          have hl0 : l = [] := List.eq_nil_of_length_eq_zero (by omega)
          rw [hl0]
          exact Seg.nil _ _
        · have hs := ints_seg (n := L i) (fun c hc => (r7 a' hA).2 c (by omega))
          rw [hl] at hs
          exact u8s_of hs
end Go.Proofs.YtpkajmgfechhhaaDoor
