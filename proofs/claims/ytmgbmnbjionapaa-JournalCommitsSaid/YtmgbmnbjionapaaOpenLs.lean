/- An argument that is a row of rows of blocks to be written, opened. No condition. -/
import Derived.Test.YtmgbmnbjionapaaJComW
import Derived.Test.YtmgbmnbjionapaaOpenWs
namespace Go.Proofs.Ytmgbmnbjionapaa
open Go.ChangeShapes Go.WideShapes Go.ChangeAt Go.RowKit Go.Deep

instance : Inhabited (List BW) := ⟨[]⟩
def LsCell (W : World) (a : Addr) (l : List BW) : Prop := ∃ Ak ck, W.cell? (a.add 0) = some (.slice Ak l.length ck) ∧ l.length ≤ ck ∧ BsAt W Ak l
theorem open_lss {H : Type} {enc : TypeId × Value → H} {P : Program} {W : World} {t t1 e q : TypeId} {f0 f1 : Field} {a0 : Option Addr} {len0 cap0 : Nat} {d : DataW H} {ps : List MemPlace}
    (ht : P.underlying t = some (.slice t1)) (ht1 : P.underlying t1 = some (.slice e)) (he : P.underlying e = some (.struct #[f0, f1])) (h0 : P.underlying f0.type = some (.int .i64)) (h1 : P.underlying f1.type = some (.slice q))
    (hq : P.underlying q = some (.int .u8)) (cq : P.cellsOf q = 1) (ce : P.cellsOf e = 2) (c1 : P.cellsOf t1 = 1)
    (ho : (#[f0, f1].map fun f => (f.offset, P.cellsOf f.type)) = #[(0, 1), (1, 1)])
    (h : DataW.Trod enc P W 0 (fun _ => true) true t (.slice a0 len0 cap0) d ps) (hlt : ∀ x ∈ ps, x.block < W.heap.size) (hwt : ∀ n, n ∈ DataW.weights P t d → n ≤ reachBytes) :
    ∃ l : List (List BW), len0 = l.length ∧ len0 ≤ cap0 ∧ LsAt W a0 l := by
  obtain ⟨fuel, hf⟩ := h
  rcases open_slice ht hf with ⟨hcs, _⟩ | ⟨a, len, cap, m, n, D, Pl, hcs, _, hlc, hcm, hmm, hx, hel⟩
  · simp [Value.cells] at hcs
    obtain ⟨rfl, rfl, rfl⟩ := hcs
    exact ⟨[], rfl, Nat.le_refl _, ⟨fun k hk => by simp at hk⟩⟩
  · simp [Value.cells] at hcs
    obtain ⟨rfl, rfl, rfl⟩ := hcs
    simp only [if_true] at hmm
    subst hmm
    simp only [Prod.mk.injEq] at hx
    obtain ⟨hd, hp⟩ := hx
    rw [c1] at hel hp
    have each : ∀ i, i < len0 → ∃ l : List BW, LsCell W (a.add (i * 1)) l := fun i hi => by
      obtain ⟨cs', hc1, hc2⟩ := hel i (by omega)
      obtain ⟨_, hcl, hcc⟩ := World.cells?_some hc1
      have hx0 : ∃ v, cs' = [v] ∧ ∃ A2 l2 cp2, v = Value.slice A2 l2 cp2 := by
        rcases open_slice ht1 hc2 with ⟨rfl, _⟩ | ⟨a2, l2, cp2, _, _, _, _, rfl, _⟩
        · exact ⟨_, rfl, none, 0, 0, rfl⟩
        · exact ⟨_, rfl, some a2, l2, cp2, rfl⟩
      obtain ⟨v, rfl, A2, l2, cp2, rfl⟩ := hx0
      have T1 : DataW.Trod enc P W 0 (fun _ => true) true t1 (.slice A2 l2 cp2) (D i) (Pl i) := ⟨n, by simpa [Value.cells] using hc2⟩
      obtain ⟨l, hl, hlc2, hB⟩ := open_bws ht1 he h0 h1 hq cq ce ho T1 (fun x hx => hlt x (by
        rw [hp]
        exact List.mem_append_right _ (List.mem_flatMap.2 ⟨i, List.mem_range.2 (by omega), hx⟩))) (fun n hn => hwt n (by
        rw [hd]
        simp only [DataW.weights, ht]
        refine List.mem_cons_of_mem _ (List.mem_append_left _ ?_)
        exact weights_allW hn _ (List.mem_map.2 ⟨i, List.mem_range.2 hi, rfl⟩)))
      subst hl
      exact ⟨l, A2, cp2, by rw [hcc 0 (by omega)]; rfl, hlc2, hB⟩
    obtain ⟨f, hf2⟩ := choose_lt each
    refine ⟨(List.range len0).map f, by simp, hlc, ⟨fun k hk => ?_⟩⟩
    have hk' : k < len0 := by simpa using hk
    have hg : ((List.range len0).map f)[k] = f k := by simp
    rw [hg]
    obtain ⟨Ak, ck, g1, g2, g3⟩ := hf2 k hk'
    obtain ⟨b, off, spot⟩ := a
    obtain ⟨A0, c0, k1, _⟩ := hf2 0 (by omega)
    have hspot : spot = none := by simpa [Addr.add] using World.cell?_spot k1
    subst hspot
    rw [Go.WideShapes.add_plain, Go.WideShapes.add_plain] at g1
    have e1 : off + k * 1 + 0 = off + k := by omega
    rw [e1] at g1
    refine ⟨b, off, Ak, ck, rfl, ?_, g1, g2, g3⟩
    rcases Nat.lt_or_ge b W.heap.size with h | h
    · exact h
    · rw [World.cell?, Array.getElem?_eq_none h] at g1
      cases g1
end Go.Proofs.Ytmgbmnbjionapaa
