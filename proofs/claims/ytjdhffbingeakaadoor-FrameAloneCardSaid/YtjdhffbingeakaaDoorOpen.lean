/- An argument that is a struct of an int, a uint64 and bytes, opened; and the size of what it holds. No condition. -/
import Derived.Test.YtjdhffbingeakaaDoorBytes
import Derived.Lib.SmallJoins
import Derived.SizedLaws
import Derived.OpenShut
import Derived.Carry
namespace Go.Proofs.YtjdhffbingeakaaDoor
open Go.Joins Go.ChangeShapes Go.WideShapes Go.ChangeAt Go.RowKit Go.Deep

theorem sized_field {H : Type} {P : Program} {ts : List TypeId} {ds : List (DataW H)} (h : (DataW.weightsEach P ts ds).all (· ≤ reachBytes) = true) {j : Nat} {t : TypeId} {fs : Array Field} {parts : List (DataW H)} (ht : ts[j]? = some t) (hd : ds[j]? = some (.agg parts)) (hu : P.underlying t = some (.struct fs))
    (i : Nat) {ft e : TypeId} {elems spare : List (DataW H)} (hf : (fs.toList.map (·.type))[i]? = some ft) (hp : parts[i]? = some (.slice elems spare)) (hs : P.underlying ft = some (.slice e)) : (elems.length + spare.length) * P.bytesOf e ≤ reachBytes := by
  have h1 : ∀ n, n ∈ DataW.weights P t (.agg parts) → n ≤ reachBytes := fun n hn => by
    have := List.all_eq_true.1 h _ (DataW.weights_mem_each ht hd n hn)
    simpa using this
  refine h1 _ ?_
  simp only [DataW.weights, hu]
  exact DataW.weights_mem_each hf hp _ (by simp [DataW.weights, hs])

theorem open_rf {H : Type} {enc : TypeId × Value → H} {P : Program} {W : World} {r : Reach} {b0 : Nat} {t e : TypeId} {f0 f1 f2 : Field} {v : Value} {d : DataW H} {ps : List MemPlace}
    (hs : P.underlying t = some (.struct #[f0, f1, f2])) (h0 : P.underlying f0.type = some (.int .i64)) (h1 : P.underlying f1.type = some (.int .u64)) (h2 : P.underlying f2.type = some (.slice e)) (he : P.underlying e = some (.int .u8)) (hce : P.cellsOf e = 1)
    (hone : oneCellFields P #[f0, f1, f2] = true) (hC : P.cellsOf t = 3) (hv : Value.okWide P W r b0 t v)
    (h : DataW.Trod enc P W 0 (fun _ => true) true t v d ps) (hlt : ∀ x ∈ ps, x.block < W.heap.size)
    (hreach : ∀ parts elems spare, d = .agg parts → parts[2]? = some (.slice elems spare) → (elems.length + spare.length) * P.bytesOf e ≤ reachBytes) :
    ∃ (x0 : Int) (u1 : Nat) (a : Option Addr) (len cap : Nat) (l : List Nat), v = .agg #[.int .i64 x0, .int .u64 u1, .slice a len cap] ∧ u1 < 18446744073709551616 ∧ len ≤ cap ∧ cap * P.bytesOf e ≤ reachBytes ∧ len = l.length ∧ Seg W a (u8s l) ∧ ∀ x ∈ l, x < 256 := by
  obtain ⟨v0, v1, v2, y0, y1, y2, n, rfl, rfl, rfl, t0, t1, t2⟩ := Joins.open_agg3 hs hone hC hv h
  obtain ⟨x0, e0, _, _⟩ := DataW.trod_int h0 t0
  obtain ⟨x1, e1, _, w1⟩ := DataW.trod_int h1 t1
  obtain rfl : v0 = .int .i64 x0 := by simpa using e0
  obtain rfl : v1 = .int .u64 x1 := by simpa using e1
  have hb := bounds_u64 w1
  obtain ⟨a, len, cap, rfl⟩ : ∃ a len cap, v2 = .slice a len cap := by
    rcases open_ints h2 he hce t2 with ⟨h, _⟩ | ⟨a, len, cap, _, h, _⟩
    · exact ⟨none, 0, 0, by simpa using h⟩
    · exact ⟨some a, len, cap, by simpa using h⟩
  have T2 : DataW.Trod enc P W 0 (fun _ => true) true f2.type (.slice a len cap) y2.1 y2.2 := ⟨n, by simpa [Value.cells] using t2⟩
  obtain ⟨hlc, hre, zs, hl, hS, hw⟩ := seg_arg h2 he hce T2 (fun x hx => hlt x (by simp [hx])) (fun elems spare hd => hreach _ elems spare rfl (by rw [← hd]; rfl))
  obtain ⟨l, rfl, hb2⟩ := nats_of_u8 hw
  exact ⟨x0, x1.toNat, a, len, cap, l, by rw [show ((x1.toNat : Nat) : Int) = x1 by omega], by omega, hlc, hre, by simpa using hl.symm, u8s_of hS, hb2⟩
end Go.Proofs.YtjdhffbingeakaaDoor
