/- Copies of rows of calls, and the calls that the statements make. Conditions: the calls lie in memory. -/
import Derived.Test.YtmgbmnbjionapaaDiskK
namespace Go.Proofs.Ytmgbmnbjionapaa
open Go.RowKit

/-- Values in memory, apart from a row. -/
def PayF (w : World) (v : Value) (A : Option Addr) (xs : List Value) : Prop :=
  xs ≠ [] → ∃ b off, A = some ⟨b, off, none⟩ ∧ b < w.heap.size ∧ v.ownBlock ≠ some b ∧ ∀ i, i < xs.length → w.cell? ⟨b, off + i, none⟩ = xs[i]?
theorem PayF.seg {w : World} {v : Value} {A : Option Addr} {xs : List Value} (h : PayF w v A xs) : Seg w A xs := fun hn => by
  obtain ⟨b, off, h1, h2, _, h4⟩ := h hn
  exact ⟨b, off, h1, h2, h4⟩
theorem PayF.bel {w w' : World} {v : Value} {A : Option Addr} {xs : List Value} (h : PayF w v A xs) (hb : Below w.heap.size w w') : PayF w' v A xs := fun hn => by
  obtain ⟨b, off, h1, h2, h3, h4⟩ := h hn
  exact ⟨b, off, h1, Nat.lt_of_lt_of_le h2 hb.size, h3, fun i hi => by rw [hb.cell (p := ⟨b, off + i, none⟩) h2]; exact h4 i hi⟩
theorem PayF.grow {w w' : World} {v : Value} {A : Option Addr} {xs : List Value} {g n c : Nat} (h : PayF w v A xs) (hg : w.grownBy w' v.ownBlock) (hgg : v.ownBlock = some g ∨ g = w.heap.size) : PayF w' (.slice (some ⟨g, 0, none⟩) n c) A xs := fun hn => by
  obtain ⟨b, off, h1, h2, h3, h4⟩ := h hn
  refine ⟨b, off, h1, Nat.lt_of_lt_of_le h2 hg.size, ?_, fun i hi => ?_⟩
  · intro e
    have e' : g = b := Option.some.inj e
    subst e'
    rcases hgg with hgg | hgg
    · exact h3 hgg
    · omega
  · rw [hg.cell_far ⟨b, off + i, none⟩ h2 (fun e => h3 e.symm)]
    exact h4 i hi
theorem PayF.fresh {w w' : World} {v : Value} {A : Option Addr} {xs : List Value} (h : Seg w' A xs) (hf : ∀ a, A = some a → w.heap.size ≤ a.block) (hv : ∀ k, v.ownBlock = some k → k < w.heap.size) : PayF w' v A xs := fun hn => by
  obtain ⟨b, off, rfl, h2, h4⟩ := h hn
  refine ⟨b, off, rfl, h2, fun e => ?_, h4⟩
  have h5 := hv b e
  have h6 : w.heap.size ≤ b := hf _ rfl
  omega
theorem own_bel6 {w w' : World} {base size : Nat} {e : TypeId} {v : Value} {n : Nat} {xs : List Value} (h : w.ownsRow base e size v n xs) (hb : Below w.heap.size w w') : w'.ownsRow base e size v n xs := by
  refine ⟨h.1, ?_⟩
  rcases h.2 with hn | ⟨g, cap, cur, rfl, hg, hgg, rest⟩
  · exact .inl hn
  · refine .inr ⟨g, cap, cur, rfl, hg, ?_, rest⟩
    rw [hb.block g (Array.getElem?_eq_some_iff.1 hgg).1]
    exact hgg
theorem own_below6 {w w' : World} {base size B : Nat} {e : TypeId} {v : Value} {n : Nat} {xs : List Value} (h : w.ownsRow base e size v n xs) (hv : ∀ k, v.ownBlock = some k → k < B) (hb : Below B w w') : w'.ownsRow base e size v n xs := by
  refine ⟨h.1, ?_⟩
  rcases h.2 with hn | ⟨g, cap, cur, rfl, hg, hgg, rest⟩
  · exact .inl hn
  · refine .inr ⟨g, cap, cur, rfl, hg, ?_, rest⟩
    rw [hb.block g (hv g rfl)]
    exact hgg
/-- The calls of a row of one's own. -/
def opAll (w : World) (v : Value) (os : List OpM) (xs : List Value) : Prop :=
  ∀ i (h : i < os.length), ∃ A c, (∀ j, j < 6 → xs[i * 6 + j]? = (os[i].cl A c)[j]?) ∧ PayF w v A (u8s os[i].data) ∧ os[i].data.length ≤ c ∧ c ≤ maxLen ∧ os[i].keep < 18446744073709551616 ∧ os[i].data.length ≤ 140737488355328
def OpIn (w : World) (base : Nat) (v : Value) (os : List OpM) : Prop :=
  ∃ xs : List Value, w.ownsRow base 36 6 v os.length xs ∧ opAll w v os xs
theorem OpIn.bel {w w' : World} {base : Nat} {v : Value} {os : List OpM} (h : OpIn w base v os) (hb : Below w.heap.size w w') : OpIn w' base v os := by
  obtain ⟨xs, h1, h2⟩ := h
  refine ⟨xs, own_bel6 h1 hb, fun i hi => ?_⟩
  obtain ⟨A, c, a1, a2, a3⟩ := h2 i hi
  exact ⟨A, c, a1, a2.bel hb, a3⟩
theorem OpIn.nil (w : World) (base : Nat) : OpIn w base (.slice none 0 0) [] := ⟨[], ⟨rfl, .inl ⟨rfl, rfl⟩⟩, fun i hi => by simp at hi⟩
theorem OpIn.push {w w' : World} {base : Nat} {v : Value} {os : List OpM} {xs : List Value} {o : OpM} {A : Option Addr} {c g cap k : Nat} (hk : os.length = k) (hx : xs.length = k * 6) (h2 : opAll w v os xs) (hs : PayF w v A (u8s o.data)) (hc : o.data.length ≤ c) (hcm : c ≤ maxLen) (hkp : o.keep < 18446744073709551616) (hdl : o.data.length ≤ 140737488355328)
    (h1 : w'.ownsRow base 36 6 (.slice (some ⟨g, 0, none⟩) (k + 1) cap) (k + 1) (xs ++ o.cl A c)) (hg : w.grownBy w' v.ownBlock) (hgg : v.ownBlock = some g ∨ g = w.heap.size) : OpIn w' base (.slice (some ⟨g, 0, none⟩) (k + 1) cap) (os ++ [o]) := by
  subst hk
  refine ⟨_, by rw [List.length_append]; exact h1, fun i hi => ?_⟩
  rw [List.length_append, List.length_singleton] at hi
  by_cases hlt : i < os.length
  · obtain ⟨A, c, a1, a2, a3⟩ := h2 i hlt
    refine ⟨A, c, fun j hj => ?_, ?_, ?_⟩
    · rw [List.getElem?_append_left (by omega), List.getElem_append_left hlt]; exact a1 j hj
    · rw [List.getElem_append_left hlt]; exact a2.grow hg hgg
    · rw [List.getElem_append_left hlt]; exact a3
  · obtain rfl : i = os.length := by omega
    have e : (os ++ [o])[os.length]'(by simp) = o := by simp
    rw [e]
    refine ⟨A, c, fun j hj => ?_, hs.grow hg hgg, hc, hcm, hkp, hdl⟩
    rw [List.getElem?_append_right (by omega), hx, show os.length * 6 + j - os.length * 6 = j by omega]
theorem OpIn.at {w : World} {base : Nat} {A : Option Addr} {n c : Nat} {os : List OpM} (h : OpIn w base (.slice A n c) os) : OpsAt w A os := fun i hi => by
  obtain ⟨xs, h1, h2⟩ := h
  obtain ⟨B, d, a1, a2, a3, a4, a5⟩ := h2 i hi
  have hn : n = os.length := by
    rcases h1.2 with ⟨hv, h0⟩ | ⟨g, cap, cur, hv, _⟩
    · injection hv with _ e _; omega
    · injection hv
  subst hn
  obtain ⟨g, cap, hv, hb, hl⟩ := h1.form (by omega)
  injection hv with e1 e2 e3
  subst e1
  refine ⟨g, 0, B, d, rfl, fun j u hj => ?_, a2.seg, a3, a4, a5⟩
  have hj' : j < 6 := by
    have := (List.getElem?_eq_some_iff.1 hj).1
    simpa [OpM.cl] using this
  rw [Nat.zero_add, h1.cellAt _ (by omega), a1 j hj', hj]
theorem OpIn.shape {w : World} {base : Nat} {v : Value} {os : List OpM} (h : OpIn w base v os) : ∃ A c, v = .slice A os.length c ∧ os.length ≤ c := by
  obtain ⟨xs, h1, _⟩ := h
  rcases h1.2 with ⟨rfl, h0⟩ | ⟨g, cap, cur, rfl, _, _, hc, _⟩
  · exact ⟨none, 0, by rw [h0], by omega⟩
  · exact ⟨_, _, rfl, hc⟩
theorem info_op : (Try.prog.info? 36).map (fun i => (i.zero, i.size, i.bytes)) = some (some (.agg #[.int .i64 0, .int .i64 0, .slice none 0 0, .int .u64 0, .int .i64 0, .int .i64 0]), 6, 64) := by kernel_rfl
theorem own_cap {w : World} {base size : Nat} {e : TypeId} {A : Option Addr} {m c n : Nat} {xs : List Value} (h : w.ownsRow base e size (.slice A m c) n xs) : c ≤ maxLen := by
  rcases h.2 with ⟨h1, _⟩ | ⟨g, cap, cur, h1, _, _, _, h2, _⟩
  · injection h1 with _ _ h1
    omega
  · injection h1 with _ _ h1
    omega
section
variable {w w' : World}
/-- What Few comes to. -/
def FewEnd (w : World) (os : List OpM) (e : Ending) (w' : World) : Prop := ∃ A' c', e = .returned (.slice A' os.length c') ∧ os.length ≤ c' ∧ OpIn w' w.heap.size (.slice A' os.length c') os ∧ Below w.heap.size w w'
set_option maxRecDepth 100000 in
set_option maxHeartbeats 4000000 in
theorem few_any (A : Option Addr) (c : Nat) (ops : List OpM) (n : Nat) (hn : n = ops.length) (hO : OpsAt w A ops) :
    Calls Try.prog 13 #[.slice A n c] w (FewEnd w (ops.take 200)) := by
  obtain ⟨j0, hi0, hz0, hz1, hz2⟩ := info_parts info_op
  obtain ⟨j1, hi1, hy0, hy1, hy2⟩ := info_parts info5
  have HO := Lib.hid hO
  have HL := Lib.hid hn
  clear hO hn
  go_enter Try.func13, Try.ntmps13
  go_wp2_with fail
  go_loopw [3, 4] (fun v i wr => ∃ k : Nat, k ≤ n ∧ k ≤ 200 ∧ i = .int .i64 k ∧ Hid (OpIn wr w.heap.size v (ops.take k)) ∧ Hid (Below w.heap.size w wr)) (fun _ i _ => n - (intOf i).toNat)
  case atStart => exact ⟨0, Nat.zero_le _, Nat.zero_le _, rfl, Lib.hid ⟨[], World.ownsRow_lit w #[] 0 (Nat.le_refl _) (Nat.zero_le _) rfl, fun i hi => by simp at hi⟩, Lib.hid ((Below.refl _ _).alloc (Nat.le_refl _) _)⟩
  case round =>
    obtain ⟨k, hk, hk2, rfl, HI, HB⟩ := hrel
    obtain ⟨Av, cv, hv, hcv⟩ := HI.out.shape
    have hlk : (ops.take k).length = k := by rw [List.length_take, ← HL.out]; omega
    rw [hlk] at hv hcv
    subst hv
    by_cases hlt : k < n ∧ k < 200
    · obtain ⟨hlt, hl2⟩ := hlt
      have hkl : k < ops.length := by rw [← HL.out]; exact hlt
      obtain ⟨b, off, Ad, ca, rfl, hra0, hsd0, hca, hcm, hkp, hdl⟩ := HO.out k hkl
      have HTK := Lib.hid (show ops.take (k + 1) = ops.take k ++ [ops[k]] by rw [List.take_succ_eq_append_getElem hkl])
      have HRA := Lib.hid (rangeAt_bel hra0 HB.out)
      have HSD := Lib.hid (hsd0.bel HB.out)
      obtain ⟨xs, hx1, hx2⟩ := HI.out
      rw [hlk] at hx1
      have HX1 := Lib.hid hx1
      have HX2 := Lib.hid hx2
      have HLK := Lib.hid hlk
      clear hra0 hsd0 hx1 hx2 hlk
      generalize ops[k] = o at *
      generalize ops.take k = os at *
      have i1 : (k : Int) < (n : Int) := by omega
      have i2 : (k : Int) < 200 := by omega
      have HSO := Lib.hid (show (Try.prog.info? 36).map (·.size) = some (o.cl Ad ca).length by rw [size_op]; rfl)
      have HS2 := Lib.hid (show (Try.prog.info? 36).map (·.size) = some (o.cl Ad ca).toArray.size by rw [size_op]; rfl)
      have HO1 := Lib.hid (all_oneCell_toArray (cl_one o Ad ca))
      have HZ6 := Lib.hid (show (#[.int .i64 0, .int .i64 0, .slice none 0 0, .int .u64 0, .int .i64 0, .int .i64 0] : Array Value).size = (o.cl Ad ca).toArray.size by rfl)
      have HB4 := Lib.hid (show (wr.alloc (.cells #[.int .i64 0, .int .i64 0, .slice none 0 0, .int .u64 0, .int .i64 0, .int .i64 0] 36)).heap[wr.heap.size]? = some (.cells #[.int .i64 0, .int .i64 0, .slice none 0 0, .int .u64 0, .int .i64 0, .int .i64 0] 36 (0, 0)) from Bk.new wr _ _)
      have HLC := Lib.hid (show (o.cl Ad ca).toArray = o.cells Ad ca from rfl)
      have e1 : (wr.alloc (.cells (o.cells Ad ca) 36)).heap.size = wr.heap.size + 1 := by simp
      have HBo := (Bk.new wr 36 (o.cells Ad ca)).alloc (.cells #[] 5)
      have c2 : ((wr.alloc (.cells (o.cells Ad ca) 36)).alloc (.cells #[] 5)).cell? ⟨wr.heap.size, 2, none⟩ = some (.slice Ad o.data.length ca) := HBo.cell 2
      have HLit := Lib.hid (show ((wr.alloc (.cells (o.cells Ad ca) 36)).alloc (.cells #[] 5)).ownsRow (wr.heap.size + 1) 5 1 (.slice (some ⟨wr.heap.size + 1, 0, none⟩) 0 0) 0 [] from by
        have := World.ownsRow_lit (base := wr.heap.size + 1) (e := 5) (size := 1) (wr.alloc (.cells (o.cells Ad ca) 36)) #[] 0 (by rw [e1]; exact Nat.le_refl _) (Nat.zero_le _) rfl
        rw [e1] at this
        exact this)
      have HB1 := Lib.hid (show Below wr.heap.size wr ((wr.alloc (.cells (o.cells Ad ca) 36)).alloc (.cells #[] 5)) from ((Below.refl _ _).alloc (Nat.le_refl _) _).alloc (by rw [e1]; omega) _)
      have HSd1 := Lib.hid (HSD.out.bel HB1.out)
      have HX1a := Lib.hid (own_bel6 HX1.out HB1.out)
      have HDl := Lib.hid hdl
      have hsz1 : ((wr.alloc (.cells (o.cells Ad ca) 36)).alloc (.cells #[] 5)).heap.size = wr.heap.size + 1 + 1 := by simp
      have HBO := Lib.hid HBo
      have HE1 := Lib.hid hsz1
      have HCA := Lib.hid hca
      clear HBo e1 hsz1 hdl hca
      go_wp2_with (first
        | (with_reducible refine wpList_load_mid rfl 36 _ rfl b (off + k * 6) rfl (o.cl Ad ca) _ HRA.out Try.underlying36 rfl HSO.out ?_)
        | (with_reducible refine wpList_store_row rfl 36 _ _ rfl wr.heap.size (o.cl Ad ca).toArray rfl rfl 36 #[.int .i64 0, .int .i64 0, .slice none 0 0, .int .u64 0, .int .i64 0, .int .i64 0] HB4.out HS2.out HZ6.out HO1.out ?_; rw [World.setRow_alloc_new, HLC.out])
        | (at_builtin; refine wpList_append_seg _ rfl _ _ _ rfl (wr.heap.size + 1) 5 j1 _ 1 Try.underlying26 hi1 hy0 hy1 hy2 rfl _ 0 [] rfl HLit.out Ad o.data.length ca (u8s o.data) rfl (u8s_length _).symm HSd1.out (u8s_one _) (by have := HDl.out; unfold maxLen; omega) (by have := HDl.out; omega) (by rw [HE1.out]; omega) ?_; intro v2 w5 hown hb5; (rw [Nat.zero_add, List.nil_append] at hown; obtain ⟨A2, c3, rfl, hcc, hsg⟩ := own_shape hown; have HCC := Lib.hid hcc; have HSG := Lib.hid hsg; have HCM := Lib.hid (own_cap hown); have HFr := Lib.hid (own_fresh hown); have HB5 := Lib.hid hb5; have hbo5 := HBO.out.below hb5 (by omega); have c25 := hbo5.cell 2; have f25 := hbo5.frozen 2; have HBO5 := Lib.hid (hbo5.put 2 (.slice A2 o.data.length c3)); have HRA6 := Lib.hid (show (w5.setCell ⟨wr.heap.size, 2, none⟩ (.slice A2 o.data.length c3)).rangeAt wr.heap.size 0 [.int .i64 o.kind, .int .i64 o.block, .slice A2 o.data.length c3, .int .u64 (o.keep : Int), .int .i64 o.tear, .int .i64 o.sectors] from fun j u hj => by rw [Nat.zero_add, HBO5.out.cell j, ← hj]; simp [OpM.cells]); have HX5 := Lib.hid (own_below6 HX1a.out (fun q hq => by have := (HX1.out.lt q hq).2; omega) hb5); have HSO6 := Lib.hid (show (Try.prog.info? 36).map (·.size) = some ([.int .i64 o.kind, .int .i64 o.block, .slice A2 o.data.length c3, .int .u64 (o.keep : Int), .int .i64 o.tear, .int .i64 o.sectors] : List Value).length by rw [size_op]; rfl); have HX7 := Lib.hid (show ((w5.setCell ⟨wr.heap.size, 2, none⟩ (.slice A2 o.data.length c3)).alloc (.cells #[.int .i64 o.kind, .int .i64 o.block, .slice A2 o.data.length c3, .int .u64 (o.keep : Int), .int .i64 o.tear, .int .i64 o.sectors] 36)).ownsRow w.heap.size 36 6 (.slice Av k cv) k xs from (ownsRow_setCell_other HX5.out (a := ⟨wr.heap.size, 2, none⟩) (fun e => Nat.lt_irrefl wr.heap.size (HX1.out.lt wr.heap.size e).2) _).alloc _); have HN7 := Lib.hid (show ∀ j u, ([.int .i64 o.kind, .int .i64 o.block, .slice A2 o.data.length c3, .int .u64 (o.keep : Int), .int .i64 o.tear, .int .i64 o.sectors] : List Value)[j]? = some u → ((w5.setCell ⟨wr.heap.size, 2, none⟩ (.slice A2 o.data.length c3)).alloc (.cells #[.int .i64 o.kind, .int .i64 o.block, .slice A2 o.data.length c3, .int .u64 (o.keep : Int), .int .i64 o.tear, .int .i64 o.sectors] 36)).cell? ((⟨w5.heap.size, 0, none⟩ : Addr).add j) = some u from World.news_of_block (cs := #[.int .i64 o.kind, .int .i64 o.block, .slice A2 o.data.length c3, .int .u64 (o.keep : Int), .int .i64 o.tear, .int .i64 o.sectors]) (t := 36) (fr := (0, 0)) (by have := Bk.new (w5.setCell ⟨wr.heap.size, 2, none⟩ (.slice A2 o.data.length c3)) 36 #[.int .i64 o.kind, .int .i64 o.block, .slice A2 o.data.length c3, .int .u64 (o.keep : Int), .int .i64 o.tear, .int .i64 o.sectors]; rw [show (w5.setCell ⟨wr.heap.size, 2, none⟩ (.slice A2 o.data.length c3)).heap.size = w5.heap.size by simp] at this; exact this)); clear hown hcc hsg hb5 hbo5))
        | (with_reducible refine wpList_load_mid rfl 36 _ rfl wr.heap.size 0 rfl [.int .i64 o.kind, .int .i64 o.block, .slice A2 o.data.length c3, .int .u64 (o.keep : Int), .int .i64 o.tear, .int .i64 o.sectors] _ HRA6.out Try.underlying36 rfl HSO6.out ?_)
        | (at_builtin; (refine wpList_append_lies _ rfl _ _ _ rfl w.heap.size 36 j0 _ 6 64 Try.underlying22 hi0 hz0 hz1 hz2 rfl (by omega) _ k xs rfl HX7.out ⟨w5.heap.size, 0, none⟩ 1 1 [.int .i64 o.kind, .int .i64 o.block, .slice A2 o.data.length c3, .int .u64 (o.keep : Int), .int .i64 o.tear, .int .i64 o.sectors] rfl rfl HN7.out (cl_one o A2 c3) (by omega) (by unfold maxLen; omega) (by omega) (by have h1 := HB.out.size; have h2 := HB5.out.size; have h3 := HE1.out; simp; omega) _ rfl ?_); intro g cap w8 hown hgrow hat hlt8; have HO8 := Lib.hid hown; have HG8 := Lib.hid hgrow; have HAT := Lib.hid hat; have HL8 := Lib.hid hlt8; clear hown hgrow hat hlt8))
      have hB7 : Below wr.heap.size wr ((w5.setCell ⟨wr.heap.size, 2, none⟩ (.slice A2 o.data.length c3)).alloc (.cells #[.int .i64 o.kind, .int .i64 o.block, .slice A2 o.data.length c3, .int .u64 (o.keep : Int), .int .i64 o.tear, .int .i64 o.sectors] 36)) := by
        refine Below.alloc (Below.setCell (HB1.out.trans (HB5.out.mono (by omega))) ?_ _) ?_ _
        · exact Nat.le_refl _
        · have := HB5.out.size; have := HE1.out; simp; omega
      have hS7 : Seg ((w5.setCell ⟨wr.heap.size, 2, none⟩ (.slice A2 o.data.length c3)).alloc (.cells #[.int .i64 o.kind, .int .i64 o.block, .slice A2 o.data.length c3, .int .u64 (o.keep : Int), .int .i64 o.tear, .int .i64 o.sectors] 36)) A2 (u8s o.data) := (Seg.far HSG.out (fun a ha => HFr.out a ha) 2 _).bel ((Below.refl _ _).alloc (Nat.le_refl _) _)
      have hP := OpIn.push (o := o) (A := A2) (c := c3) HLK.out (by rw [HX1.out.1]) (fun i hi => by
        obtain ⟨A, c, a1, a2, a3⟩ := HX2.out i hi
        exact ⟨A, c, a1, a2.bel hB7, a3⟩) (PayF.fresh hS7 (fun a ha => Nat.le_trans (Nat.le_succ _) (HFr.out a ha)) (fun q hq => (HX1.out.lt q hq).2)) HCC.out HCM.out hkp HDl.out HO8.out HG8.out HAT.out
      refine ⟨⟨k + 1, by omega, by omega, by go_num, Lib.hid ?_, Lib.hid ?_⟩, by simp [intOf]; omega⟩
      · rw [HTK.out]
        exact hP
      · refine (HB.out.trans (hB7.mono HB.out.size)).grown HG8.out ?_ (fun q hq => (HX1.out.lt q hq).1)
        have h1 := HB.out.size; have h2 := hB7.size; omega
    · have HE := Lib.hid (show ops.take k = ops.take 200 by
        rcases Nat.lt_or_ge k n with h | h
        · rw [show k = 200 by omega]
        · rw [List.take_of_length_le (by rw [← HL.out]; omega), List.take_of_length_le (by rw [← HL.out]; omega)])
      have HLK := Lib.hid hlk
      clear hlk
      have HF : Hid (FewEnd w (ops.take 200) (.returned (.slice Av k cv)) wr) := Lib.hid ⟨Av, cv, by rw [← HE.out, HLK.out], by rw [← HE.out, HLK.out]; exact hcv, by rw [← HE.out, HLK.out]; exact HI.out, HB.out⟩
      by_cases hkn : k < n
      · have i1 : (k : Int) < (n : Int) := by omega
        have i2 : ¬ (k : Int) < 200 := by omega
        clear hlt
        go_wp2_with fail
        go_ret
        exact HF.out
      · have i1 : ¬ (k : Int) < (n : Int) := by omega
        clear hlt
        go_wp2_with fail
        go_ret
        exact HF.out
end
end Go.Proofs.Ytmgbmnbjionapaa
