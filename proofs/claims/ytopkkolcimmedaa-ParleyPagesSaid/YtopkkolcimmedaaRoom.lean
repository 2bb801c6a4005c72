/- An append that has room: the row's block is known whole. No condition. -/
import Derived.Test.YtopkkolcimmedaaBtA
import Derived.Lib.UnsafeStr
import Derived.Lib.AppendZeros
namespace Go.Proofs.Ytopkkolcimmedaa
open Go.RowKit

theorem run_append_room {P : Program} (w : World) (t ty e : TypeId) (i : TypeInfo) (ht : P.underlying t = some (.slice e)) (hi : P.info? e = some i)
    (hsize : i.size = 1) (g n cap : Nat) (cur : Array Value) (hg : w.heap[g]? = some (.cells cur e (0, 0))) (hcs : cur.size = cap) (A : Option Addr) (m c : Nat) (news : List Value) (hm : m = news.length) (hr : Seg w A news) (h1 : ∀ u ∈ news, u.oneCell' = true) (hroom : n + m ≤ cap) (hpos : 0 < m) :
    (Builtin.append_ #[t, t] ty #[.slice (some ⟨g, 0, none⟩) n cap, .slice A m c]).run P w = .ok (.slice (some ⟨g, 0, none⟩) (n + m) cap) (w.setRow g (cur.toList.take n ++ news ++ cur.toList.drop (n + m)).toArray) := by
  subst hm
  obtain ⟨b, off, rfl, _, hc⟩ := hr (by intro e; subst e; simp at hpos)
  have hst := run_storeCells_at P g n e news 0 cur w hg (by simp; omega) h1
  simp only [Nat.add_zero] at hst
  have hne : ¬ news.length = 0 := by omega
  have hfo := run_firstCells_some (P := P) w 1 news.length ⟨b, off, none⟩ news.length c news (by omega) (by
    intro j u hj
    have e1 : ((⟨b, off, none⟩ : Addr).add j) = ⟨b, off + j, none⟩ := by unfold Addr.add; split <;> simp_all
    rw [e1, hc j (List.getElem?_eq_some_iff.1 hj).1, hj])
  simp [Builtin.append_, run_underlying ht, sizeOf, typeInfo, hi, hsize, Builtin.lenOf, hroom, hfo, hst, Addr.add_lit, hne]
theorem run_append_room_str {P : Program} (w : World) (t s ty e : TypeId) (i : TypeInfo) (ht : P.underlying t = some (.slice e)) (hs : P.underlying s = some .string) (hi : P.info? e = some i)
    (hsize : i.size = 1) (g n cap : Nat) (cur : Array Value) (hg : w.heap[g]? = some (.cells cur e (0, 0))) (hcs : cur.size = cap) (x : ByteArray) (hroom : n + x.size ≤ cap) :
    (Builtin.append_ #[t, s] ty #[.slice (some ⟨g, 0, none⟩) n cap, .string x]).run P w = .ok (.slice (some ⟨g, 0, none⟩) (n + x.size) cap) (w.setRow g (cur.toList.take n ++ Lib.byteCells x.data.toList ++ cur.toList.drop (n + x.size)).toArray) := by
  have hl : (Lib.byteCells x.data.toList).length = x.size := by rw [Lib.byteCells_length]; rfl
  have hst := run_storeCells_at P g n e (Lib.byteCells x.data.toList) 0 cur w hg (by simp [hl]; omega) (by
    intro v hv
    simp only [Lib.byteCells, List.mem_map] at hv
    obtain ⟨y, _, rfl⟩ := hv
    rfl)
  simp only [Nat.add_zero, hl] at hst
  have e : List.take x.size (List.map (fun b : UInt8 => Value.int IntKind.u8 (b.toNat : Int)) x.data.toList) = Lib.byteCells x.data.toList := List.take_of_length_le (by rw [List.length_map]; exact Nat.le_refl _)
  simp [Builtin.append_, run_underlying ht, run_underlying hs, sizeOf, typeInfo, hi, hsize, Builtin.lenOf, hroom, Addr.add_lit, Builtin.firstCells]
  rw [e, hst]
  simp
/-- An append whose run is known, as an operation of a walk. -/
theorem wpList_append_ran {P : Program} {w : World} {ops : Array Oper} {rest : List Oper} {o : Oper} {a : Act} {Q : Exit → Act → World → Prop} (hgd : o.guard = none) (s x : Operand) (t tn : TypeId)
    (ho : o.op = .call { callee := .builtin .append, args := #[s, x], argTypes := #[t, tn] }) (vs vx : Value) (hs : a.eval s = vs) (hx : a.eval x = vx) (v' : Value) (w' : World)
    (hrun : (Builtin.append_ #[t, tn] o.type #[vs, vx]).run P w = .ok v' w') (h : wpList P ops Q rest (a.put o.dst v') w') : wpList P ops Q (o :: rest) a w :=
  wpList_wanted (by simp [Region.wanted, hgd]) fun K hK => Lib.wp_append_run w s x t tn ho _ _ hs hx v' w' hrun (hK _ _ h)
end Go.Proofs.Ytopkkolcimmedaa
