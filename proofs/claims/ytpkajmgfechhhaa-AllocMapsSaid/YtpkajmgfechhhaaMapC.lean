/- The walks of a map's runs. Conditions: a map in form lies in memory. -/
import Derived.Test.YtpkajmgfechhhaaMapB
namespace Go.Proofs.Ytpkajmgfechhhaa
open Go.RowKit

def prs (l : List (Nat × Nat)) : List Value := l.flatMap fun r => [.int .i64 (r.1 : Int), .int .i64 (r.2 : Int)]
theorem prs_length (l : List (Nat × Nat)) : (prs l).length = l.length * 2 := by
  induction l with
  | nil => rfl
  | cons a l ih => simp only [prs, List.flatMap_cons, List.length_append, List.length_cons, List.length_nil] at ih ⊢; omega
theorem prs_append (l m : List (Nat × Nat)) : prs (l ++ m) = prs l ++ prs m := by simp [prs]
theorem prs_get (l : List (Nat × Nat)) : ∀ k (h : k < l.length), (prs l)[2 * k]? = some (.int .i64 (l[k].1 : Int)) ∧ (prs l)[2 * k + 1]? = some (.int .i64 (l[k].2 : Int)) := by
  induction l with
  | nil => intro k h; simp at h
  | cons a l ih =>
    intro k h
    rcases k with _ | k
    · simp [prs]
    · have := ih k (by simpa using h)
      simp only [prs, List.flatMap_cons] at this ⊢
      rw [show 2 * (k + 1) = 2 * k + 1 + 1 by omega]
      simpa using this
theorem clo_length (f : Nat → Bool) : ∀ i, (clo f i).length ≤ i
  | 0 => Nat.le_refl _
  | i + 1 => by
    have := clo_length f i
    unfold clo
    split
    · unfold shutAt; split <;> simp <;> omega
    · omega
theorem runsN_length (f : Nat → Bool) (T : Nat) : (runsN f T).length ≤ T + 1 := by
  have := clo_length f T
  unfold runsN shutAt; split <;> simp <;> omega
theorem info_pair : (Try.prog.info? 45).map (fun i => (i.zero, i.size, i.bytes)) = some (some (.agg #[.int .i64 0, .int .i64 0]), 2, 16) := by kernel_rfl
/-- An append of elements of several cells that lie in memory. -/
theorem run_append_els {P : Program} (w : World) (base : Nat) (t ty e : TypeId) (i : TypeInfo) (z : Value) (size bytes : Nat) (ht : P.underlying t = some (.slice e)) (hi : P.info? e = some i) (hz : i.zero = some z)
    (hsize : i.size = size) (hby : i.bytes = bytes) (hzs : z.cells.size = size) (h0 : 0 < size)
    (v : Value) (n : Nat) (xs : List Value) (hown : w.ownsRow base e size v n xs) (b off : Nat) (m c : Nat) (news : List Value) (hm : news.length = m * size) (hr : ∀ j u, news[j]? = some u → w.cell? ⟨b, off + j, none⟩ = some u) (h1 : ∀ u ∈ news, u.oneCell' = true)
    (h63 : n + m ≤ maxLen) (hbytes : (n + m) * bytes ≤ 140737488355328) (hbase : base ≤ w.heap.size) :
    ∃ v' w', (Builtin.append_ #[t, t] ty #[v, .slice (some ⟨b, off, none⟩) m c]).run P w = .ok v' w' ∧ w'.ownsRow base e size v' (n + m) (xs ++ news) ∧ Below base w w' := by
  obtain ⟨v', w', hrun, h2, h3, _⟩ := run_append_own (P := P) w base t ty e i z size bytes ht hi hz hsize hby hzs h0 v n xs hown ⟨b, off, none⟩ m c news (by omega) (fun j u hj => by
    rw [show ((⟨b, off, none⟩ : Addr).add j) = ⟨b, off + j, none⟩ by unfold Addr.add; split <;> simp_all]
    exact hr j u hj) h1 h63 hbytes hbase
  exact ⟨v', w', hrun, h2, (Below.refl base w).grown h3 hbase (fun k hk => (hown.lt k hk).1)⟩
theorem wpList_append_els {P : Program} (w : World) {ops : Array Oper} {rest : List Oper} {o : Oper} {a : Act} {Q : Exit → Act → World → Prop} (hgd : o.guard = none) (s x : Operand) (t : TypeId)
    (ho : o.op = .call { callee := .builtin .append, args := #[s, x], argTypes := #[t, t] })
    (base : Nat) (e : TypeId) (i : TypeInfo) (z : Value) (size bytes : Nat) (ht : P.underlying t = some (.slice e)) (hi : P.info? e = some i) (hz : i.zero = some z)
    (hsize : i.size = size) (hby : i.bytes = bytes) (hzs : z.cells.size = size) (h0 : 0 < size)
    (v : Value) (n : Nat) (xs : List Value) (hs : a.eval s = v) (hown : w.ownsRow base e size v n xs) (b off m c : Nat) (news : List Value) (hx : a.eval x = .slice (some ⟨b, off, none⟩) m c) (hm : news.length = m * size) (hr : ∀ j u, news[j]? = some u → w.cell? ⟨b, off + j, none⟩ = some u)
    (h1 : ∀ u ∈ news, u.oneCell' = true) (h63 : n + m ≤ maxLen) (hbytes : (n + m) * bytes ≤ 140737488355328) (hbase : base ≤ w.heap.size)
    (h : ∀ v' w', w'.ownsRow base e size v' (n + m) (xs ++ news) → Below base w w' → wpList P ops Q rest (a.put o.dst v') w') : wpList P ops Q (o :: rest) a w := by
  obtain ⟨v', w', hrun, h2, h3⟩ := run_append_els (P := P) w base t o.type e i z size bytes ht hi hz hsize hby hzs h0 v n xs hown b off m c news hm hr h1 h63 hbytes hbase
  refine wpList_plain hgd fun K hK => ?_
  unfold Oper.wp execOp
  simp only [ho, resolve, invoke, builtin, Sem.run_bind, Sem.run_pure, Result.andThen_ok, List.map_toArray, List.map_cons, List.map_nil, hs, hx, hrun]
  exact hK _ _ (h v' w' h2 h3)
theorem own_bel' {w w' : World} {base size : Nat} {e : TypeId} {v : Value} {n : Nat} {xs : List Value} (h : w.ownsRow base e size v n xs) (hb : Below w.heap.size w w') : w'.ownsRow base e size v n xs := by
  refine ⟨h.1, ?_⟩
  rcases h.2 with hn | ⟨g, cap, cur, rfl, hg, hgg, rest⟩
  · exact .inl hn
  · refine .inr ⟨g, cap, cur, rfl, hg, ?_, rest⟩
    rw [hb.block g (Array.getElem?_eq_some_iff.1 hgg).1]
    exact hgg
theorem lit_at (w : World) (cs : Array Value) (e : TypeId) (j : Nat) (u : Value) (h : cs.toList[j]? = some u) : (w.alloc (.cells cs e)).cell? ⟨w.heap.size, 0 + j, none⟩ = some u := by
  rw [Nat.zero_add, cell_of_row _ _ j cs e (0, 0) (heap_alloc_new w _)]
  simpa using h
theorem two_one (k k' : IntKind) (a b : Int) : ∀ u ∈ [Value.int k a, Value.int k' b], u.oneCell' = true := by
  intro u hu
  simp only [List.mem_cons, List.not_mem_nil, or_false] at hu
  rcases hu with rfl | rfl <;> rfl
theorem used_map {w : World} {T : Nat} {f : Nat → Bool} {A : Option Addr} {n c : Nat} (h : MapIn w T f A n c) (i : Nat) (hi : i < T) :
    Calls Try.prog 33 #[.agg #[.int .i64 (T : Int), .slice A n c], .int .i64 i] w fun e w' => e = .returned (.bool (f i)) ∧ Below w.heap.size w w' := by
  have hl := h.len
  have hT := h.le
  have hu := used_any (T : Int) A n c i (pk f n) (pk_length f n).symm (by omega) (by omega) w h.seg (pk_lt f n)
  rw [us_pk f n i (by omega)] at hu
  exact hu

set_option maxRecDepth 100000 in
set_option maxHeartbeats 2000000 in
theorem mruns_any (T : Nat) (f : Nat → Bool) (A : Option Addr) (n c : Nat) (w : World) (h : MapIn w T f A n c) :
    Calls Try.prog 28 #[.agg #[.int .i64 (T : Int), .slice A n c]] w fun e w' => ∃ v, e = .returned v ∧ w'.ownsRow w.heap.size 45 2 v (runsN f T).length (prs (runsN f T)) ∧ Below w.heap.size w w' := by
  obtain ⟨i0, hi0, hz0, hz1, hz2⟩ := info_parts info_pair
  have hT := h.le
  have hb := (Below.refl w.heap.size w).alloc (Nat.le_refl _) (.cells #[.int .i64 (T : Int), .slice A n c] 27)
  have HB := Lib.hid hb
  have HM := Lib.hid (h.bel hb)
  have BX := Lib.hid (Bk.new w 27 #[.int .i64 (T : Int), .slice A n c])
  have y0 := BX.out.cell 0
  clear h hb
  go_enter Try.func28, Try.ntmps28
  go_wp2_with fail
  generalize w.alloc (.cells #[.int .i64 (T : Int), .slice A n c] 27) = w1 at *
  go_wp2_with fail
  go_loopw [3, 4, 8] (fun v g i wr => ∃ k : Nat, k ≤ T ∧ i = .int .i64 k ∧ g = .int .i64 ((lng f k : Nat) : Int) ∧ wr.ownsRow w1.heap.size 45 2 v (clo f k).length (prs (clo f k)) ∧ Below w1.heap.size w1 wr) (fun _ _ i _ => T - (intOf i).toNat)
  case atStart => exact ⟨0, by omega, rfl, rfl, ⟨rfl, .inl ⟨rfl, rfl⟩⟩, Below.refl _ _⟩
  case round =>
    obtain ⟨k, hk, rfl, rfl, ho, hb⟩ := hrel
    have hlk := lng_le f k
    have hcl := clo_length f k
    by_cases hlt : k < T
    · have y0 := (BX.out.bel hb).cell 0
      have y1 := (BX.out.bel hb).cell 1
      have HU := Lib.hid (used_map (HM.out.bel hb) k hlt)
      by_cases e : f k = true
      · rw [e] at HU
        by_cases hp : 0 < lng f k
        · have hsn : prs (clo f (k + 1)) = prs (clo f k) ++ [.int .i64 ((k : Int) - (lng f k : Nat)), .int .i64 ((lng f k : Nat) : Int)] ∧ (clo f (k + 1)).length = (clo f k).length + 1 ∧ lng f (k + 1) = 0 := by
            simp only [clo, lng, e, if_true, shutAt]
            rw [if_pos hp, prs_append]
            refine ⟨?_, by simp, trivial⟩
            simp only [prs, List.flatMap_cons, List.flatMap_nil, List.append_nil]
            rw [Int.ofNat_sub hlk]
          obtain ⟨s1, s2, s3⟩ := hsn
          have H1 := Lib.hid s1
          have H2 := Lib.hid s2
          have H3 := Lib.hid s3
          have HO := Lib.hid ho
          have HW := Lib.hid hb
          have hp' : (0 : Int) < ((lng f k : Nat) : Int) := by omega
          have hlk' : ((lng f k : Nat) : Int) ≤ (k : Int) := by omega
          clear s1 s2 s3 ho hb e hlk hp
          generalize lng f k = G at *
          generalize prs (clo f k) = P at *
          generalize (clo f k).length = L at *
          go_wp2_with (first
            | (at_builtin; refine wpList_append_els _ rfl _ _ _ rfl w1.heap.size 45 i0 _ 2 16 Try.underlying32 hi0 hz0 hz1 hz2 rfl (by omega) _ L P rfl (O2.out.alloc _) w2.heap.size 0 1 1 [.int .i64 ((k : Int) - (G : Nat)), .int .i64 ((G : Nat) : Int)] rfl rfl (fun j u hj => lit_at w2 _ _ j u hj) (two_one _ _ _ _) (by simp only [maxLen]; omega) (by omega) (by have := W2.out.size; simp; omega) ?_; intro v3 w3 hown hb3; have O3 := Lib.hid hown; have W3 := Lib.hid ((W2.out.alloc W2.out.size (.cells #[.int .i64 ((k : Int) - (G : Nat)), .int .i64 ((G : Nat) : Int)] 45)).trans hb3); clear hown hb3)
            | (go_at_call 33; refine (HU.out).mono ?_; rintro e w2 ⟨rfl, b2⟩; have O2 := Lib.hid (own_bel' HO.out b2); have W2 := Lib.hid (HW.out.trans (b2.mono HW.out.size)); clear b2 y0 y1))
          go_roundw
          case rel => exact ⟨k + 1, by omega, by go_num, by rw [H3.out]; rfl, by rw [H1.out, H2.out]; exact O3.out, W3.out⟩
          case measure => simp [intOf]; omega
        · have hp0 : lng f k = 0 := by omega
          have hsn : clo f (k + 1) = clo f k ∧ lng f (k + 1) = 0 := by
            simp only [clo, lng, e, if_true, shutAt]
            rw [if_neg hp]
            exact ⟨rfl, trivial⟩
          have H1 := Lib.hid hsn.1
          have H3 := Lib.hid hsn.2
          have HO := Lib.hid ho
          have HW := Lib.hid hb
          clear hsn ho hb e hlk hp
          generalize lng f k = G at *
          subst hp0
          go_wp2_with (go_at_call 33; refine (HU.out).mono ?_; rintro e w2 ⟨rfl, b2⟩; have O2 := Lib.hid (own_bel' HO.out b2); have W2 := Lib.hid (HW.out.trans (b2.mono HW.out.size)); clear b2 y0 y1)
          go_roundw
          case rel => exact ⟨k + 1, by omega, by go_num, by rw [H3.out]; rfl, by rw [H1.out]; exact O2.out, W2.out⟩
          case measure => simp [intOf]; omega
      · have e' : f k = false := by simpa using e
        rw [e'] at HU
        have hsn : clo f (k + 1) = clo f k ∧ lng f (k + 1) = lng f k + 1 := by
          simp only [clo, lng, e', Bool.false_eq_true, if_false]
          exact ⟨trivial, trivial⟩
        have H1 := Lib.hid hsn.1
        have H3 := Lib.hid hsn.2
        have HO := Lib.hid ho
        have HW := Lib.hid hb
        clear hsn ho hb e e'
        generalize lng f k = G at *
        go_wp2_with (go_at_call 33; refine (HU.out).mono ?_; rintro e w2 ⟨rfl, b2⟩; have O2 := Lib.hid (own_bel' HO.out b2); have W2 := Lib.hid (HW.out.trans (b2.mono HW.out.size)); clear b2 y0 y1)
        go_roundw
        case rel => exact ⟨k + 1, by omega, by go_num, by rw [H3.out]; go_num, by rw [H1.out]; exact O2.out, W2.out⟩
        case measure => simp [intOf]; omega
    · obtain rfl : k = T := by omega
      have y0 := (BX.out.bel hb).cell 0
      have HO := Lib.hid ho
      have HW := Lib.hid hb
      by_cases hp : 0 < lng f k
      · have hsn : prs (runsN f k) = prs (clo f k) ++ [.int .i64 ((k : Int) - (lng f k : Nat)), .int .i64 ((lng f k : Nat) : Int)] ∧ (runsN f k).length = (clo f k).length + 1 := by
          simp only [runsN, shutAt]
          rw [if_pos hp, prs_append]
          refine ⟨?_, by simp⟩
          simp only [prs, List.flatMap_cons, List.flatMap_nil, List.append_nil]
          rw [Int.ofNat_sub hlk]
        have H1 := Lib.hid hsn.1
        have H2 := Lib.hid hsn.2
        have hp' : (0 : Int) < ((lng f k : Nat) : Int) := by omega
        have hlk' : ((lng f k : Nat) : Int) ≤ (k : Int) := by omega
        clear hsn ho hb hp hlk
        generalize lng f k = G at *
        generalize prs (clo f k) = P at *
        generalize (clo f k).length = L at *
        go_wp2_with (at_builtin; refine wpList_append_els _ rfl _ _ _ rfl w1.heap.size 45 i0 _ 2 16 Try.underlying32 hi0 hz0 hz1 hz2 rfl (by omega) _ L P rfl (HO.out.alloc _) wr.heap.size 0 1 1 [.int .i64 ((k : Int) - (G : Nat)), .int .i64 ((G : Nat) : Int)] rfl rfl (fun j u hj => lit_at wr _ _ j u hj) (two_one _ _ _ _) (by simp only [maxLen]; omega) (by omega) (by have := HW.out.size; simp; omega) ?_; intro v3 w3 hown hb3; have O3 := Lib.hid hown; have W3 := Lib.hid ((HW.out.alloc HW.out.size (.cells #[.int .i64 ((k : Int) - (G : Nat)), .int .i64 ((G : Nat) : Int)] 45)).trans hb3); clear hown hb3)
        go_ret
        exact ⟨v3, rfl, by rw [H1.out, H2.out]; exact own_le O3.out HB.out.size, HB.out.trans (W3.out.mono HB.out.size)⟩
      · have hsn : runsN f k = clo f k := by
          simp only [runsN, shutAt]
          rw [if_neg hp]
        have hp0 : lng f k = 0 := by omega
        have H1 := Lib.hid hsn
        clear hsn ho hb hp hlk
        generalize lng f k = G at *
        subst hp0
        go_wp2_with fail
        go_ret
        exact ⟨_, rfl, by rw [H1.out]; exact own_le HO.out HB.out.size, HB.out.trans (HW.out.mono HB.out.size)⟩
end Go.Proofs.Ytpkajmgfechhhaa
