/- The walk of the reference's reading of a block. Condition: the bytes lie in memory. -/
import Derived.Test.YtpkajmgfechhhaaDoorRefEnc
import Derived.Test.YtpkajmgfechhhaaDoorDecode
namespace Go.Proofs.YtpkajmgfechhhaaDoor
open Go.RowKit

theorem seq_back (l : List Nat) (j : Nat) (hj : 0 < j) (hj8 : j ≤ 8) (hl : 15 < l.length) : leGet ((l.drop (8 + (j - 1))).take (8 - (j - 1))) = 256 * leGet ((l.drop (8 + j)).take (8 - j)) + l.getD (7 + j) 0 := by
  rw [show l.getD (7 + j) 0 = l[7 + j]'(by omega) by simp [List.getD, show 7 + j < l.length by omega]]
  obtain ⟨k, rfl⟩ : ∃ k, j = k + 1 := ⟨j - 1, by omega⟩
  rw [Nat.add_sub_cancel, List.drop_eq_getElem_cons (show 8 + k < l.length by omega), show 8 - k = (8 - (k + 1)) + 1 by omega, List.take_succ_cons]
  simp only [leGet]
  rw [show 8 + k + 1 = 8 + (k + 1) by omega, Nat.add_comm]
  congr 2
  omega
theorem getD_lt {l : List Nat} (hl : ∀ x ∈ l, x < 256) (i : Nat) : l.getD i 0 < 256 := by
  by_cases h : i < l.length
  · rw [show l.getD i 0 = l[i] by simp [List.getD, h]]; exact hl _ (List.getElem_mem h)
  · rw [show l.getD i 0 = 0 by simp [List.getD, List.getElem?_eq_none (by omega : l.length ≤ i)]]; omega
theorem seg_getD {w : World} {A : Option Addr} {l : List Nat} (h : Seg w A (u8s l)) (hn : 256 = l.length) : ∃ b off, A = some ⟨b, off, none⟩ ∧ ∀ i, i < 256 → w.cell? ⟨b, off + i, none⟩ = some (.int .u8 ((l.getD i 0 : Nat) : Int)) := by
  obtain ⟨b, off, rfl, _, hc, _⟩ := h.pick (k := 0) (by rw [u8s_length]; omega)
  refine ⟨b, off, rfl, fun i hi => ?_⟩
  rw [hc i (by rw [u8s_length]; omega), List.getElem?_eq_getElem (by rw [u8s_length]; omega), u8s_get l i (by omega)]
  simp [List.getD, show i < l.length by omega]
theorem get_two (l : List Nat) (hn : 256 = l.length) : leGet ((l.drop 4).take 2) = l.getD 4 0 + 256 * l.getD 5 0 := by
  rw [List.drop_eq_getElem_cons (show 4 < l.length by omega), List.take_succ_cons, List.drop_eq_getElem_cons (show 5 < l.length by omega), List.take_succ_cons, List.take_zero]
  simp [leGet, List.getD, show 4 < l.length by omega, show 5 < l.length by omega]
def okF (l : List Nat) (place : Int) : Prop := l.length = 256 ∧ fitsN l place
/-- What reading a block answers. -/
def RDec (l : List Nat) (place : Int) (w : World) (e : Ending) (w' : World) : Prop :=
  (okF l place ∧ ∃ A' c', (∀ a, A' = some a → w.heap.size ≤ a.block) ∧ e = .returned (.tuple #[.agg #[.int .i64 ((sayN l).1 : Int), .int .u64 ((sayN l).2.1 : Int), .slice A' (sayN l).2.2.length c'], .int .i64 0]) ∧ (sayN l).2.2.length ≤ c' ∧ Seg w' A' (u8s (sayN l).2.2) ∧ Below w.heap.size w w') ∨
  (¬ okF l place ∧ ∃ er : Int, er ≠ 0 ∧ e = .returned (.tuple #[noFrame, .int .i64 er]) ∧ Below w.heap.size w w')
theorem RDec.no {l : List Nat} {place : Int} {w w' : World} {er : Int} (h : ¬ okF l place) (he : er ≠ 0) (hb : Below w.heap.size w w') : RDec l place w (.returned (.tuple #[noFrame, .int .i64 er])) w' := .inr ⟨h, er, he, rfl, hb⟩
theorem far_bk {a w : World} {g k : Nat} {o n c : Nat} {t : TypeId} {cs : Array Value} (h : a.grownBy w (Value.slice (some ⟨g, o, none⟩) n c).ownBlock) (hb : Bk a k t cs) (hk : k ≠ g) : Bk w k t cs := (h.block k hb.lt (fun e => hk (by have := Option.some.inj e; exact this))).trans hb
theorem own_ne {w : World} {base : Nat} {e t : TypeId} {A : Option Addr} {n c k : Nat} {xs : List Value} {cs : Array Value} (h : w.ownsRow base e 1 (.slice A n c) n xs) (hb : Bk w k t cs) (hte : e ≠ t) : ∀ a, A = some a → a.block ≠ k := by
  intro a ha hk
  subst ha
  rcases h.2 with ⟨h', _⟩ | ⟨g, cap, cur, h', _, hg, _⟩
  · cases h'
  · injection h' with h1
    injection h1 with h1
    subst h1
    have hk' : g = k := hk
    subst hk'
    unfold Bk at hb
    rw [hg] at hb
    injection hb with hb
    injection hb with _ hb
    exact hte hb
theorem Seg.ne {w : World} {A : Option Addr} {xs : List Value} (h : Seg w A xs) {g : Nat} (hg : ∀ a, A = some a → a.block ≠ g) (i : Nat) (u : Value) : Seg (w.setCell ⟨g, i, none⟩ u) A xs := fun hn => by
  obtain ⟨b, off, rfl, hl, hc⟩ := h hn
  have := hg _ rfl
  refine ⟨b, off, rfl, by simpa using hl, fun i hi => ?_⟩
  rw [cell_set_far u (by simpa using this)]
  exact hc i hi
theorem cell_lt {w : World} {p : Addr} {v : Value} (h : w.cell? p = some v) : p.block < w.heap.size := by
  rcases Nat.lt_or_ge p.block w.heap.size with h' | h'
  · exact h'
  · rw [World.cell?, Array.getElem?_eq_none h'] at h
    cases h
theorem list_ext (l m : List Nat) (hl : 256 = l.length) (hm : 256 = m.length) : (∀ x, x < 256 → l.getD x 0 = m.getD x 0) → l = m := fun h => by
  apply List.ext_getElem (by omega)
  intro i h1 h2
  have := h i (by omega)
  simpa [List.getD, h1, h2] using this
theorem own_le' {w : World} {base base' size n : Nat} {e : TypeId} {v : Value} {xs : List Value} (h : w.ownsRow base e size v n xs) (hb : base' ≤ base) : w.ownsRow base' e size v n xs := by
  refine ⟨h.1, ?_⟩
  rcases h.2 with hn | ⟨g, cap, cur, rfl, hg, rest⟩
  · exact .inl hn
  · exact .inr ⟨g, cap, cur, rfl, Nat.le_trans hb hg, rest⟩
theorem RDec.yes {l : List Nat} {place : Int} {w w' : World} (h : okF l place) {X LE : Nat} {PL : List Nat} (hs : sayN l = (X, LE, PL)) {A' : Option Addr} {G c' : Nat} (hG : G = PL.length) (hc : G ≤ c') (hS : Seg w' A' (u8s PL)) (hb : Below w.heap.size w w') (hfr : ∀ a, A' = some a → w.heap.size < a.block) :
    RDec l place w (.returned (.tuple #[.agg #[.int .i64 (X : Int), .int .u64 (LE : Int), .slice A' G c'], .int .i64 0])) w' := by
  refine .inl ⟨h, A', c', fun a ha => Nat.le_of_lt (hfr a ha), ?_, ?_, ?_, hb⟩
  · rw [hs, hG]
  · rw [hs, ← hG]; exact hc
  · rw [hs]; exact hS
theorem run_append_seg_g {P : Program} (w : World) (base : Nat) (t ty e : TypeId) (i : TypeInfo) (z : Value) (bytes : Nat) (ht : P.underlying t = some (.slice e)) (hi : P.info? e = some i) (hz : i.zero = some z)
    (hsize : i.size = 1) (hby : i.bytes = bytes) (hzs : z.cells.size = 1)
    (v : Value) (n : Nat) (xs : List Value) (hown : w.ownsRow base e 1 v n xs) (A : Option Addr) (m c : Nat) (news : List Value) (hm : m = news.length) (hr : Seg w A news) (h1 : ∀ u ∈ news, u.oneCell' = true)
    (h63 : n + m ≤ maxLen) (hbytes : (n + m) * bytes ≤ 140737488355328) (hbase : base ≤ w.heap.size) :
    ∃ v' w', (Builtin.append_ #[t, t] ty #[v, .slice A m c]).run P w = .ok v' w' ∧ w'.ownsRow base e 1 v' (n + m) (xs ++ news) ∧ Below base w w' ∧ w.grownBy w' v.ownBlock := by
  have fin : ∀ (ad : Addr) (news : List Value), m = news.length → (∀ j u, news[j]? = some u → w.cell? (ad.add j) = some u) → (∀ u ∈ news, u.oneCell' = true) →
      ∃ v' w', (Builtin.append_ #[t, t] ty #[v, .slice (some ad) m c]).run P w = .ok v' w' ∧ w'.ownsRow base e 1 v' (n + m) (xs ++ news) ∧ Below base w w' ∧ w.grownBy w' v.ownBlock := by
    intro ad news hm hc h1
    obtain ⟨v', w', hrun, h2, h3, _⟩ := run_append_own (P := P) w base t ty e i z 1 bytes ht hi hz hsize hby hzs (by omega) v n xs hown ad m c news (by omega) hc h1 h63 hbytes hbase
    exact ⟨v', w', hrun, h2, (Below.refl base w).grown h3 hbase (fun k hk => (hown.lt k hk).1), h3⟩
  rcases news with _ | ⟨u, us⟩
  · simp at hm
    subst hm
    rcases A with _ | ad
    · exact ⟨v, w, run_append_nil w base t ty e i ht hi v n xs hown c, by simpa using hown, Below.refl _ _, ⟨rfl, rfl, rfl, Nat.le_refl _, fun _ _ _ => rfl⟩⟩
    · exact fin ad [] rfl (by simp) (by simp)
  · obtain ⟨b, off, rfl, _, hc⟩ := hr (by simp)
    refine fin ⟨b, off, none⟩ (u :: us) hm (fun j x hx => ?_) h1
    have hj : j < (u :: us).length := (List.getElem?_eq_some_iff.1 hx).1
    have e1 : ((⟨b, off, none⟩ : Addr).add j) = ⟨b, off + j, none⟩ := by unfold Addr.add; split <;> simp_all
    rw [e1, hc j hj, hx]
theorem step_append_seg_g {P : Program} (w : World) {ops : Array Oper} {o : Oper} {a : Act} {K : Act → World → Prop} {Q : Exit → Act → World → Prop} {E : Prop} (hgd : o.guard = none) (s x : Operand) (t : TypeId)
    (ho : o.op = .call { callee := .builtin .append, args := #[s, x], argTypes := #[t, t] })
    (base : Nat) (e : TypeId) (i : TypeInfo) (z : Value) (bytes : Nat) (ht : P.underlying t = some (.slice e)) (hi : P.info? e = some i) (hz : i.zero = some z)
    (hsize : i.size = 1) (hby : i.bytes = bytes) (hzs : z.cells.size = 1)
    (v : Value) (n : Nat) (xs : List Value) (hs : a.eval s = v) (hown : w.ownsRow base e 1 v n xs) (A : Option Addr) (m c : Nat) (news : List Value) (hx : a.eval x = .slice A m c) (hm : m = news.length) (hr : Seg w A news)
    (h1 : ∀ u ∈ news, u.oneCell' = true) (h63 : n + m ≤ maxLen) (hbytes : (n + m) * bytes ≤ 140737488355328) (hbase : base ≤ w.heap.size)
    (h : ∀ v' w', w'.ownsRow base e 1 v' (n + m) (xs ++ news) → Below base w w' → w.grownBy w' v.ownBlock → K (a.put o.dst v') w') :
    if Region.wanted o (yielded ops a.tmps) = true then Oper.wp P o a w K Q else E := by
  have hw : Region.wanted o (yielded ops a.tmps) = true := by simp [Region.wanted, hgd]
  rw [if_pos hw]
  obtain ⟨v', w', hrun, h2, h3, h4⟩ := run_append_seg_g (P := P) w base t o.type e i z bytes ht hi hz hsize hby hzs v n xs hown A m c news hm hr h1 h63 hbytes hbase
  unfold Oper.wp execOp
  simp only [ho, resolve, invoke, builtin, Sem.run_bind, Sem.run_pure, Result.andThen_ok, List.map_toArray, List.map_cons, List.map_nil, hs, hx, hrun]
  exact h v' w' h2 h3 h4
/-- What stands in memory while a block is read. -/
structure RdW (w : World) (b off : Nat) (l : List Nat) (w' : World) : Prop where
  seg : Seg w' (some ⟨b, off, none⟩) (u8s l)
  box : Bk w' w.heap.size 30 #[.int .i64 0, .int .u64 0, .slice none 0 0]
  bel : Below w.heap.size w w'
section
variable {w w' w'' : World} {b off : Nat} {l : List Nat}
theorem RdW.step (h : RdW w b off l w') (hb : Below w'.heap.size w' w'') : RdW w b off l w'' :=
  ⟨h.seg.bel hb, h.box.bel hb, h.bel.trans (hb.mono h.bel.size)⟩
theorem RdW.alloc (h : RdW w b off l w') (o : Obj) : RdW w b off l (w'.alloc o) := h.step ((Below.refl _ _).alloc (Nat.le_refl _) o)
theorem RdW.drew (h : RdW w b off l w') : RdW w b off l w'.drew := h.step (Below.refl _ _).drew
theorem RdW.set (h : RdW w b off l w') (g : Nat) (hg : b < g ∧ w.heap.size < g) (i : Nat) (v : Value) : RdW w b off l (w'.setCell ⟨g, i, none⟩ v) :=
  ⟨fun hn => by
      obtain ⟨b1, o1, e, hl, hc⟩ := h.seg hn
      injection e with e
      injection e with e1 e2
      subst e1 e2
      exact ⟨_, _, rfl, by simpa using hl, fun j hj => by rw [cell_set_far _ (by omega)]; exact hc j hj⟩,
    h.box.far (by show w.heap.size ≠ g; omega) v, h.bel.setCell (p := ⟨g, i, none⟩) (by show w.heap.size ≤ g; omega) v⟩
theorem RdW.S (h : RdW w b off l w') (X : Nat) (hX : X = l.getD 2 0) (hn : 256 = l.length) : w'.cell? ⟨b, off + 2, none⟩ = some (.int .u8 (X : Int)) ∧ RdW w b off l w' := by
  refine ⟨?_, h⟩
  obtain ⟨b', o', e, hc⟩ := seg_getD h.seg hn
  injection e with e
  injection e with e1 e2
  subst e1 e2
  rw [hc 2 (by omega), hX]
end
set_option maxRecDepth 100000 in
set_option maxHeartbeats 4000000 in
theorem refdec_any (A : Option Addr) (n c : Nat) (l : List Nat) (hn : n = l.length) (hnc : n ≤ c) (place : Int) (w : World) (hA : Seg w A (u8s l)) (hl : ∀ x ∈ l, x < 256) :
    Calls Tryd.prog 6 #[.slice A n c, .int .i64 place] w (RDec l place w) := by
  obtain ⟨i0, hi0, hz0, hz1, hz2⟩ := info_parts info5
  have BR := Lib.hid (Bk.new w 30 #[.int .i64 0, .int .u64 0, .slice none 0 0])
  have hb := (Below.refl w.heap.size w).alloc (Nat.le_refl _) (.cells #[.int .i64 0, .int .u64 0, .slice none 0 0] 30)
  have HB := Lib.hid hb
  have HZ := Lib.hid (show (w.alloc (.cells #[.int .i64 0, .int .u64 0, .slice none 0 0] 30)).heap.size = w.heap.size + 1 by simp)
  have HS := Lib.hid (hA.bel hb)
  have HL := Lib.hid hl
  have z0 := BR.out.cell 0
  have z1 := BR.out.cell 1
  have z2 := BR.out.cell 2
  clear hb hA hl
  by_cases h256 : n = 256
  · subst h256
    have HN := Lib.hid hn
    have hs := HS.out
    obtain ⟨b, off, rfl, hcs⟩ := seg_getD hs hn
    have h4 := hcs 4 (by omega)
    have h5 := hcs 5 (by omega)
    have hg := get_two l hn
    have hx4 := getD_lt HL.out 4
    have hx5 := getD_lt HL.out 5
    have HG := Lib.hid hg
    have HCs := Lib.hid hcs
    clear hn hs hcs hg
    generalize l.getD 4 0 = x4 at *
    generalize l.getD 5 0 = x5 at *
    obtain ⟨G, hG⟩ : ∃ G : Nat, G = x4 + 256 * x5 := ⟨_, rfl⟩
    have t1 : IntKind.i64.wrap (x4 : Int) = (x4 : Int) := IntWalk.i64_in _ (by omega)
    have t2 : IntKind.i64.wrap (x5 : Int) = (x5 : Int) := IntWalk.i64_in _ (by omega)
    have t3 : IntKind.i64.wrap (256 * (x5 : Int)) = 256 * (x5 : Int) := IntWalk.i64_in _ (by omega)
    have t4 : IntKind.i64.wrap ((x4 : Int) + 256 * (x5 : Int)) = (G : Int) := by rw [IntWalk.i64_in _ (by omega)]; omega
    have HGG := Lib.hid (show leGet ((l.drop 4).take 2) = G by rw [HG.out, hG])
    have hGb : G ≤ 65535 := by omega
    clear hG
    by_cases h232 : G ≤ 232
    · have i6 : decide ((232 : Int) < (G : Int)) = false := by rw [decide_eq_false_iff_not]; omega
      go_enter Tryd.func6, Tryd.ntmps6
      go_wp2_with fail
      generalize w.alloc (.cells #[.int .i64 0, .int .u64 0, .slice none 0 0] 30) = w1 at *
      go_quiet (fail)
      clear t1 t2 t3 t4 h4 h5
      have BR := Lib.hid (show Bk (w1.drewN nq) w.heap.size 30 #[.int .i64 0, .int .u64 0, .slice none 0 0] from BR.out.drewN nq)
      have HB := Lib.hid (below_drewN HB.out nq)
      have HS := Lib.hid (HS.out.bel (below_drewN (Below.refl _ _) nq))
      have HCs := Lib.hid (show ∀ i, i < 256 → (w1.drewN nq).cell? ⟨b, off + i, none⟩ = some (.int .u8 ((l.getD i 0 : Nat) : Int)) from HCs.out)
      have z0 := BR.out.cell 0
      have z1 := BR.out.cell 1
      have z2 := BR.out.cell 2
      generalize w1.drewN nq = w1 at *
      go_wp2_with fail
      go_loop [7, 8] (fun s i => ∃ j : Nat, j ≤ 8 ∧ i = .int .i64 ((j : Int) - 1) ∧ s = .int .u64 ((leGet ((l.drop (8 + j)).take (8 - j)) : Nat) : Int)) (fun _ i => (intOf i + 1).toNat)
      case atStart => exact ⟨8, by omega, rfl, rfl⟩
      case round =>
        obtain ⟨j, hj, rfl, rfl⟩ := hrel
        have hsl := leGet_take_lt (l.drop (8 + j)) (fun x hx => HL.out x (List.mem_of_mem_drop hx)) (8 - j) (by omega)
        by_cases hj0 : 0 < j
        · have hback := seq_back l j hj0 hj (by have := HN.out; omega)
          have hc := HCs.out (7 + j) (by omega)
          have hx := getD_lt HL.out (7 + j)
          have hsl2 := leGet_take_lt (l.drop (8 + (j - 1))) (fun x hx => HL.out x (List.mem_of_mem_drop hx)) (8 - (j - 1)) (by omega)
          generalize l.getD (7 + j) 0 = x at *
          obtain ⟨k, rfl⟩ : ∃ k, j = k + 1 := ⟨j - 1, by omega⟩
          rw [Nat.add_sub_cancel] at hback hsl2
          have HBk := Lib.hid hback
          have hm : 256 * leGet ((l.drop (8 + (k + 1))).take (8 - (k + 1))) + x < 18446744073709551616 := by omega
          have hc' : w1.cell? ⟨b, off + (8 + k), none⟩ = some (.int .u8 (x : Int)) := by rw [show 8 + k = 7 + (k + 1) by omega]; exact hc
          clear hback hsl2 hc
          generalize leGet ((l.drop (8 + (k + 1))).take (8 - (k + 1))) = S at *
          go_wp2_with fail
          go_round
          case rel => exact ⟨k, by omega, congrArg (Value.int .i64) (by omega), by rw [HBk.out]; rfl⟩
          case measure => simp [intOf]
        · obtain rfl : j = 0 := by omega
          obtain ⟨LE, hLE⟩ : ∃ LE, LE = leGet ((l.drop 8).take 8) := ⟨_, rfl⟩
          have hLEl : LE < 18446744073709551616 := by rw [hLE]; exact leGet_take_lt _ (fun x hx => HL.out x (List.mem_of_mem_drop hx)) 8 (by omega)
          rw [Nat.add_zero, Nat.sub_zero, ← hLE]
          obtain ⟨X, hX⟩ : ∃ X, X = l.getD 2 0 := ⟨_, rfl⟩
          have hXl : X < 256 := by rw [hX]; exact getD_lt HL.out 2
          obtain ⟨PL, hPL⟩ : ∃ PL, PL = (l.drop 24).take G := ⟨_, rfl⟩
          have HSay := Lib.hid (show sayN l = (X, LE, PL) by unfold sayN; rw [← hX, ← hLE, HGG.out, ← hPL])
          have HPB := Lib.hid (show ∀ x ∈ PL, x < 256 by rw [hPL]; exact fun x hx => HL.out x (List.mem_of_mem_drop (List.mem_of_mem_take hx)))
          have K3 := Lib.hid (show G = PL.length by rw [hPL, List.length_take, List.length_drop, ← HN.out]; omega)
          have hc2 := HCs.out 2 (by omega)
          rw [← hX] at hc2
          have HX := Lib.hid hX
          have HBl : b < w1.heap.size := by
            obtain ⟨b', o', e, hl', _⟩ := HS.out.pick (k := 2) (by rw [u8s_length, ← HN.out]; omega)
            injection e with e
            injection e with e1 e2
            subst e1
            exact hl'
          have HWl := Lib.hid (show w.heap.size < w1.heap.size from BR.out.lt)
          have D0' : RdW w b off l w1 := ⟨HS.out, BR.out, HB.out⟩
          have HD0 := Lib.hid D0'
          have K5 := Lib.hid (fun (w' : World) (h : RdW w b off l w') => by
            have := (seg_at h.seg 24 (by rw [← HN.out]; omega)).take G
            rwa [show (u8s (l.drop 24)).take G = u8s PL by rw [hPL]; simp [u8s, List.map_take]] at this)
          have hS := D0'.S X HX.out HN.out
          have j3 : ¬ c = 24 := by omega
          have j4 : (24 : Int) ≤ (c : Int) := by omega
          have j5 : (24 : Int) + (G : Int) ≤ (c : Int) := by omega
          have j6 : IntKind.i64.wrap (24 + (G : Int)) = 24 + (G : Int) := IntWalk.i64_in _ (by omega)
          have j7 : (24 : Int) ≤ 24 + (G : Int) := by omega
          have j8 : (24 + (G : Int)).toNat = 24 + G := by omega
          have j9 : IntKind.i64.wrap (X : Int) = (X : Int) := IntWalk.i64_in _ (by omega)
          clear hLE hX hPL D0' i6 hsl
          go_wp2_with fail
          have F0 := Lib.hid (show G = (u8s PL).length by rw [u8s_length]; exact K3.out)
          have F1 := Lib.hid (show 0 + G ≤ maxLen by simp only [maxLen]; omega)
          have F2 := Lib.hid (show (0 + G) * 1 ≤ 140737488355328 by omega)
          have O1 := Lib.hid (show (w1.alloc (.cells #[] 5)).drew.ownsRow w1.heap.size 5 1 (.slice (some ⟨w1.heap.size, 0, none⟩) 0 0) 0 [] from World.ownsRow_lit w1 #[] 0 (Nat.le_refl _) (by decide) rfl)
          have O2 := Lib.hid (show ((w1.alloc (.cells #[.int .i64 0, .int .u64 0, .slice none 0 0] 30)).alloc (.cells #[] 5)).drew.ownsRow (w1.heap.size + 1) 5 1 (.slice (some ⟨w1.heap.size + 1, 0, none⟩) 0 0) 0 [] by
            have h := World.ownsRow_lit (base := (w1.alloc (.cells #[.int .i64 0, .int .u64 0, .slice none 0 0] 30)).heap.size) (e := 5) (size := 1) (w1.alloc (.cells #[.int .i64 0, .int .u64 0, .slice none 0 0] 30)) #[] 0 (Nat.le_refl _) (by decide) rfl
            rw [World.size_alloc] at h
            exact h)
          have O3 := Lib.hid (show ((w1.alloc (.cells #[] 5)).alloc (.cells #[.int .i64 0, .int .u64 0, .slice none 0 0] 30)).drew.ownsRow w1.heap.size 5 1 (.slice (some ⟨w1.heap.size, 0, none⟩) 0 0) 0 [] from (World.ownsRow_lit w1 #[] 0 (Nat.le_refl _) (by decide) rfl).alloc _)
          have D1 := Lib.hid (show RdW w b off l (w1.alloc (.cells #[] 5)).drew from (HD0.out.alloc _).drew)
          have D2 := Lib.hid (show RdW w b off l ((w1.alloc (.cells #[.int .i64 0, .int .u64 0, .slice none 0 0] 30)).alloc (.cells #[] 5)).drew from ((HD0.out.alloc _).alloc _).drew)
          have D3 := Lib.hid (show RdW w b off l ((w1.alloc (.cells #[] 5)).alloc (.cells #[.int .i64 0, .int .u64 0, .slice none 0 0] 30)).drew from ((HD0.out.alloc _).alloc _).drew)
          have E1 := Lib.hid (show Below w1.heap.size w1 (w1.alloc (.cells #[] 5)).drew from ((Below.refl w1.heap.size w1).alloc (Nat.le_refl _) _).drew)
          have E2 := Lib.hid (show Below w1.heap.size w1 ((w1.alloc (.cells #[.int .i64 0, .int .u64 0, .slice none 0 0] 30)).alloc (.cells #[] 5)).drew from (((Below.refl w1.heap.size w1).alloc (Nat.le_refl _) _).alloc (by simp) _).drew)
          have E3 := Lib.hid (show Below w1.heap.size w1 ((w1.alloc (.cells #[] 5)).alloc (.cells #[.int .i64 0, .int .u64 0, .slice none 0 0] 30)).drew from (((Below.refl w1.heap.size w1).alloc (Nat.le_refl _) _).alloc (by simp) _).drew)
          have L2 := Lib.hid (show w1.heap.size + 1 ≤ ((w1.alloc (.cells #[.int .i64 0, .int .u64 0, .slice none 0 0] 30)).alloc (.cells #[] 5)).drew.heap.size by show _ ≤ ((w1.alloc (.cells #[.int .i64 0, .int .u64 0, .slice none 0 0] 30)).alloc (.cells #[] 5)).heap.size; simp)
          have X2 := Lib.hid (show Bk ((w1.alloc (.cells #[.int .i64 0, .int .u64 0, .slice none 0 0] 30)).alloc (.cells #[] 5)).drew w1.heap.size 30 #[.int .i64 0, .int .u64 0, .slice none 0 0] from (((Bk.new w1 30 #[.int .i64 0, .int .u64 0, .slice none 0 0]).alloc (.cells #[] 5)).drew))
          have X3 := Lib.hid (show Bk ((w1.alloc (.cells #[] 5)).alloc (.cells #[.int .i64 0, .int .u64 0, .slice none 0 0] 30)).drew (w1.heap.size + 1) 30 #[.int .i64 0, .int .u64 0, .slice none 0 0] by
            have h := Bk.new (w1.alloc (.cells #[] 5)) 30 #[.int .i64 0, .int .u64 0, .slice none 0 0]
            rw [World.size_alloc] at h
            exact h.drew)
          go_region_held3 (fun w' => w'.cell? ⟨b, off + 2, none⟩ = some (.int .u8 (X : Int)) ∧ RdW w b off l w')
            (first
              | (with_reducible assumption)
              | (with_reducible exact RdW.S (HD0.out.drew) X HX.out HN.out)
              | (with_reducible exact RdW.S ((HD0.out.alloc _).drew) X HX.out HN.out)
              | (with_reducible exact RdW.S (((HD0.out.alloc _).alloc _).drew) X HX.out HN.out)
              | (with_reducible exact RdW.S (HD0.out.step b1) X HX.out HN.out)
              | (with_reducible exact RdW.S ((HD0.out.step b1).alloc _) X HX.out HN.out)
              | (with_reducible exact RdW.S ((((HD0.out.step b1).set _ ⟨HBl, HWl.out⟩ 0 _).set _ ⟨HBl, HWl.out⟩ 1 _).set _ ⟨HBl, HWl.out⟩ 2 _) X HX.out HN.out)
              | (with_reducible exact RdW.S ((((HD0.out.step b1).set _ ⟨Nat.lt_succ_of_lt HBl, Nat.lt_succ_of_lt HWl.out⟩ 0 _).set _ ⟨Nat.lt_succ_of_lt HBl, Nat.lt_succ_of_lt HWl.out⟩ 1 _).set _ ⟨Nat.lt_succ_of_lt HBl, Nat.lt_succ_of_lt HWl.out⟩ 2 _) X HX.out HN.out))
            (first
              | ((refine step_append_seg_g _ rfl _ _ _ rfl (w1.heap.size) 5 i0 _ 1 Tryd.underlying23 hi0 hz0 hz1 hz2 rfl _ 0 _ rfl O1.out _ G _ (u8s PL) rfl F0.out (K5.out _ D1.out) (u8s_one _) F1.out F2.out E1.out.size ?_); intro v' w' hown' hb' hg'; simp only [Nat.zero_add, List.nil_append] at hown'; have FF := Lib.hid (fun A1 c1 (e : v' = .slice A1 G c1) => own_fresh (e ▸ hown')); obtain ⟨A1, c1, rfl, hc1, s1⟩ := own_shape hown'; have SG := Lib.hid s1; have b1 := E1.out.trans hb'; clear hown' hb' hg' s1)
              | ((refine step_append_seg_g _ rfl _ _ _ rfl (w1.heap.size + 1) 5 i0 _ 1 Tryd.underlying23 hi0 hz0 hz1 hz2 rfl _ 0 _ rfl O2.out _ G _ (u8s PL) rfl F0.out (K5.out _ D2.out) (u8s_one _) F1.out F2.out L2.out ?_); intro v' w' hown' hb' hg'; simp only [Nat.zero_add, List.nil_append] at hown'; have FF := Lib.hid (fun A1 c1 (e : v' = .slice A1 G c1) => own_fresh (e ▸ hown')); obtain ⟨A1, c1, rfl, hc1, s1⟩ := own_shape hown'; have SG := Lib.hid s1; have b1 := E2.out.trans (hb'.mono (Nat.le_succ _)); have r1 := X2.out.below hb' (Nat.lt_succ_self _); have XR := Lib.hid r1; have FB := Lib.hid (own_ne hown' r1 (by decide)); have y0 := r1.cell 0; have y1 := r1.cell 1; have y2 := r1.cell 2; have f0 := r1.frozen 0; have f1 := r1.frozen 1; have f2 := r1.frozen 2; clear r1; clear hown' hb' hg' s1)
              | ((refine step_append_seg_g _ rfl _ _ _ rfl (w1.heap.size) 5 i0 _ 1 Tryd.underlying23 hi0 hz0 hz1 hz2 rfl _ 0 _ rfl O3.out _ G _ (u8s PL) rfl F0.out (K5.out _ D3.out) (u8s_one _) F1.out F2.out E3.out.size ?_); intro v' w' hown' hb' hg'; simp only [Nat.zero_add, List.nil_append] at hown'; have FF := Lib.hid (fun A1 c1 (e : v' = .slice A1 G c1) => own_fresh (e ▸ hown')); obtain ⟨A1, c1, rfl, hc1, s1⟩ := own_shape hown'; have SG := Lib.hid s1; have b1 := E3.out.trans hb'; have r1 := far_bk hg' X3.out (Nat.succ_ne_self _); have XR := Lib.hid r1; have FB := Lib.hid (own_ne hown' r1 (by decide)); have y0 := r1.cell 0; have y1 := r1.cell 1; have y2 := r1.cell 2; have f0 := r1.frozen 0; have f1 := r1.frozen 1; have f2 := r1.frozen 2; clear r1; clear hown' hb' hg' s1))
          · clear hS
            go_wp2_with fail
            have a9 : Below w'.heap.size w' (w'.alloc (.cells #[.int .i64 (X : Int), .int .u64 (LE : Int), .slice A1 G c1] 30)) := (Below.refl _ _).alloc (Nat.le_refl _) _
            have DX := (HD0.out.step b1).step a9
            have SX := SG.out.bel a9
            have BX := Bk.new w' 30 #[.int .i64 (X : Int), .int .u64 (LE : Int), .slice A1 G c1]
            have FR := Lib.hid (show ∀ a, A1 = some a → w.heap.size < a.block from fun a ha => by have h1 := FF.out A1 c1 rfl a ha; have h2 := HWl.out; omega)
            clear a9
            generalize w'.alloc (.cells #[.int .i64 (X : Int), .int .u64 (LE : Int), .slice A1 G c1] 30) = w9 at *
            generalize w'.heap.size = g9 at *
            have DW := Lib.hid DX
            have SW := Lib.hid SX
            have BW := Lib.hid BX
            clear DX SX BX
            refine (refenc_res (X : Int) LE place A1 G c1 PL K3.out hLEl _ SW.out HPB.out).mono ?_
            rintro e w10 ⟨A', m', c', rfl, hR, b10⟩
            have DW2 := Lib.hid (DW.out.step b10)
            have SV := Lib.hid (SW.out.bel b10)
            have BV := Lib.hid (BW.out.bel b10)
            clear b10
            rcases hR with ⟨k, p, hk, hp, her, rfl, hse⟩ | ⟨her, rfl, rfl⟩
            · obtain rfl : k = X := by omega
              subst hp
              have hok : okN (k : Int) (p : Int) := by
                by_cases h : okN (k : Int) (p : Int)
                · exact h
                · unfold errN at her; rw [if_neg h] at her; omega
              obtain ⟨q1, q2, q3, q4⟩ := hok
              have l232 : PL.length ≤ 232 := by rw [← K3.out]; exact h232
              have hEl := encN_length k LE PL p l232
              have HFit := Lib.hid (show okF l (p : Int) ↔ l = encN k LE PL p by
                constructor
                · rintro ⟨_, a, ha, _, _, he⟩
                  rw [HSay.out] at he
                  rw [← he]
                  congr 1
                  omega
                · intro he
                  exact ⟨HN.out.symm, p, rfl, by omega, by rw [HGG.out]; exact h232, by rw [HSay.out]; exact he.symm⟩)
              rw [her]
              obtain ⟨be, oe, rfl, hce⟩ := seg_getD hse hEl.symm
              have HCe := Lib.hid hce
              have HSl := Lib.hid DW2.out.seg
              have HEx := Lib.hid (list_ext l (encN k LE PL p) HN.out hEl.symm)
              clear hce hse her hEl
              generalize encN k LE PL p = E at *
              go_wp2_with fail
              go_loopw [66] (fun i wr => ∃ j : Nat, j ≤ 256 ∧ i = .int .i64 j ∧ (∀ x, x < j → l.getD x 0 = E.getD x 0) ∧ Below w10.heap.size w10 wr) (fun i _ => 256 - (intOf i).toNat)
              case atStart => exact ⟨0, by omega, rfl, fun x h => by omega, Below.refl _ _⟩
              case round =>
                obtain ⟨j, hj, rfl, heq, hb⟩ := hrel
                have HEq := Lib.hid heq
                have HB2 := Lib.hid hb
                have DV := Lib.hid (DW2.out.step hb)
                by_cases hlt : j < 256
                · have i1 : (0 : Int) ≤ (j : Int) := by omega
                  have i2 : (j : Int) < 256 := by omega
                  obtain ⟨b', o', e', hcl⟩ := seg_getD DV.out.seg HN.out
                  injection e' with e'
                  injection e' with e1 e2
                  subst e1 e2
                  have ca := hcl j hlt
                  have cb := HCe.out j hlt
                  rw [← hb.cell (p := ⟨be, oe + j, none⟩) (cell_lt cb)] at cb
                  have hxa := getD_lt HL.out j
                  by_cases hd : l.getD j 0 = E.getD j 0
                  · have HD := Lib.hid (show ∀ x, x < j + 1 → l.getD x 0 = E.getD x 0 from fun x hx => by
                      by_cases e : x = j
                      · rw [e]; exact hd
                      · exact HEq.out x (by omega))
                    rw [← hd] at cb
                    clear heq hb hcl hd
                    generalize l.getD j 0 = y at *
                    go_wp2_with fail
                    go_quiet (fail)
                    go_wp2_with fail
                    go_roundw
                    case rel => exact ⟨j + 1, by omega, by go_num, HD.out, below_drewN HB2.out _⟩
                    case measure => simp [intOf]; omega
                  · have HNo := Lib.hid (show ¬ okF l (p : Int) from fun h => hd (by rw [HFit.out.1 h]))
                    have z0 := DV.out.box.cell 0
                    have z1 := DV.out.box.cell 1
                    have z2 := DV.out.box.cell 2
                    have u0 := DV.out.box.frozen 0
                    have u1 := DV.out.box.frozen 1
                    have u2 := DV.out.box.frozen 2
                    have hdi : (((l.getD j 0 : Nat) : Int) != ((E.getD j 0 : Nat) : Int)) = true := by rw [bne_iff_ne]; omega
                    have hBl := Lib.hid (fun m => below_drewN DV.out.bel m)
                    clear heq hb hcl hd
                    generalize l.getD j 0 = y at *
                    generalize E.getD j 0 = y' at *
                    go_wp2_with fail
                    go_quiet (fail)
                    go_wp2_with fail
                    exact bodyPost_ret (v := .tuple #[noFrame, .int .i64 4]) (by simp [results, Tryd.results6, go_sem, noFrame, z0, z1, z2]) rfl
                      (RDec.no HNo.out (by omega) ((((hBl.out _).setCell (p := ⟨w.heap.size, 0, none⟩) (Nat.le_refl _) _).setCell (p := ⟨w.heap.size, 1, none⟩) (Nat.le_refl _) _).setCell (p := ⟨w.heap.size, 2, none⟩) (Nat.le_refl _) _))
                · obtain rfl : j = 256 := by omega
                  have HYes := Lib.hid (HFit.out.2 (HEx.out HEq.out))
                  have SV2 := Lib.hid (SV.out.bel hb)
                  have BV2 := Lib.hid (BV.out.bel hb)
                  have z0 := DV.out.box.cell 0
                  have z1 := DV.out.box.cell 1
                  have z2 := DV.out.box.cell 2
                  have u0 := DV.out.box.frozen 0
                  have u1 := DV.out.box.frozen 1
                  have u2 := DV.out.box.frozen 2
                  have a0 := BV2.out.cell 0
                  have a1 := BV2.out.cell 1
                  have a2 := BV2.out.cell 2
                  clear heq hb
                  go_wp2_with fail
                  exact bodyPost_ret (v := .tuple #[.agg #[.int .i64 (k : Int), .int .u64 (LE : Int), .slice A1 G c1], .int .i64 0]) (by simp [results, Tryd.results6, go_sem, z0, z1, z2]) rfl
                    (RDec.yes HYes.out HSay.out K3.out hc1 (((SV2.out.far FR.out 0 _).far FR.out 1 _).far FR.out 2 _) (((DV.out.bel.setCell (p := ⟨w.heap.size, 0, none⟩) (Nat.le_refl _) _).setCell (p := ⟨w.heap.size, 1, none⟩) (Nat.le_refl _) _).setCell (p := ⟨w.heap.size, 2, none⟩) (Nat.le_refl _) _) FR.out)
            · have hno : ¬ okF l place := by
                rintro ⟨_, a, ha, ha2, _, _⟩
                have hok : okN (X : Int) place := ⟨by omega, by omega, by omega, by omega⟩
                unfold errN at her
                rw [if_pos hok, if_neg (by rw [← K3.out]; omega)] at her
                exact her rfl
              have HNo := Lib.hid hno
              have her' : (errN (X : Int) place PL.length != 0) = true := by rw [bne_iff_ne]; exact her
              have DV := DW2
              have z0 := DV.out.box.cell 0
              have z1 := DV.out.box.cell 1
              have z2 := DV.out.box.cell 2
              have u0 := DV.out.box.frozen 0
              have u1 := DV.out.box.frozen 1
              have u2 := DV.out.box.frozen 2
              clear hno her
              generalize errN (X : Int) place PL.length = er at *
              go_wp2_with fail
              exact bodyPost_ret (v := .tuple #[noFrame, .int .i64 4]) (by simp [results, Tryd.results6, go_sem, noFrame, z0, z1, z2]) rfl
                (RDec.no HNo.out (by omega) (((DV.out.bel.setCell (p := ⟨w.heap.size, 0, none⟩) (Nat.le_refl _) _).setCell (p := ⟨w.heap.size, 1, none⟩) (Nat.le_refl _) _).setCell (p := ⟨w.heap.size, 2, none⟩) (Nat.le_refl _) _))
          · clear hS
            rename_i hHeld
            have DX := hHeld.2
            clear hHeld
            go_wp2_with fail
            have SX := ((SG.out.ne FB.out 0 (.int .i64 (X : Int))).ne FB.out 1 (.int .u64 (LE : Int))).ne FB.out 2 (.slice A1 G c1)
            have BX : Bk (((w'.setCell ⟨w1.heap.size + 1, 0, none⟩ (.int .i64 (X : Int))).setCell ⟨w1.heap.size + 1, 1, none⟩ (.int .u64 (LE : Int))).setCell ⟨w1.heap.size + 1, 2, none⟩ (.slice A1 G c1)) (w1.heap.size + 1) 30 #[.int .i64 (X : Int), .int .u64 (LE : Int), .slice A1 G c1] := ((XR.out.put 0 _).put 1 _).put 2 _
            have FR := Lib.hid (show ∀ a, A1 = some a → w.heap.size < a.block from fun a ha => by have h1 := FF.out A1 c1 rfl a ha; have h2 := HWl.out; omega)
            clear y0 y1 y2 f0 f1 f2
            generalize ((w'.setCell ⟨w1.heap.size + 1, 0, none⟩ (.int .i64 (X : Int))).setCell ⟨w1.heap.size + 1, 1, none⟩ (.int .u64 (LE : Int))).setCell ⟨w1.heap.size + 1, 2, none⟩ (.slice A1 G c1) = w9 at *
            generalize hg9 : w1.heap.size + 1 = g9 at *
            clear hg9
            have DW := Lib.hid DX
            have SW := Lib.hid SX
            have BW := Lib.hid BX
            clear DX SX BX
            refine (refenc_res (X : Int) LE place A1 G c1 PL K3.out hLEl _ SW.out HPB.out).mono ?_
            rintro e w10 ⟨A', m', c', rfl, hR, b10⟩
            have DW2 := Lib.hid (DW.out.step b10)
            have SV := Lib.hid (SW.out.bel b10)
            have BV := Lib.hid (BW.out.bel b10)
            clear b10
            rcases hR with ⟨k, p, hk, hp, her, rfl, hse⟩ | ⟨her, rfl, rfl⟩
            · obtain rfl : k = X := by omega
              subst hp
              have hok : okN (k : Int) (p : Int) := by
                by_cases h : okN (k : Int) (p : Int)
                · exact h
                · unfold errN at her; rw [if_neg h] at her; omega
              obtain ⟨q1, q2, q3, q4⟩ := hok
              have l232 : PL.length ≤ 232 := by rw [← K3.out]; exact h232
              have hEl := encN_length k LE PL p l232
              have HFit := Lib.hid (show okF l (p : Int) ↔ l = encN k LE PL p by
                constructor
                · rintro ⟨_, a, ha, _, _, he⟩
                  rw [HSay.out] at he
                  rw [← he]
                  congr 1
                  omega
                · intro he
                  exact ⟨HN.out.symm, p, rfl, by omega, by rw [HGG.out]; exact h232, by rw [HSay.out]; exact he.symm⟩)
              rw [her]
              obtain ⟨be, oe, rfl, hce⟩ := seg_getD hse hEl.symm
              have HCe := Lib.hid hce
              have HSl := Lib.hid DW2.out.seg
              have HEx := Lib.hid (list_ext l (encN k LE PL p) HN.out hEl.symm)
              clear hce hse her hEl
              generalize encN k LE PL p = E at *
              go_wp2_with fail
              go_loopw [66] (fun i wr => ∃ j : Nat, j ≤ 256 ∧ i = .int .i64 j ∧ (∀ x, x < j → l.getD x 0 = E.getD x 0) ∧ Below w10.heap.size w10 wr) (fun i _ => 256 - (intOf i).toNat)
              case atStart => exact ⟨0, by omega, rfl, fun x h => by omega, Below.refl _ _⟩
              case round =>
                obtain ⟨j, hj, rfl, heq, hb⟩ := hrel
                have HEq := Lib.hid heq
                have HB2 := Lib.hid hb
                have DV := Lib.hid (DW2.out.step hb)
                by_cases hlt : j < 256
                · have i1 : (0 : Int) ≤ (j : Int) := by omega
                  have i2 : (j : Int) < 256 := by omega
                  obtain ⟨b', o', e', hcl⟩ := seg_getD DV.out.seg HN.out
                  injection e' with e'
                  injection e' with e1 e2
                  subst e1 e2
                  have ca := hcl j hlt
                  have cb := HCe.out j hlt
                  rw [← hb.cell (p := ⟨be, oe + j, none⟩) (cell_lt cb)] at cb
                  have hxa := getD_lt HL.out j
                  by_cases hd : l.getD j 0 = E.getD j 0
                  · have HD := Lib.hid (show ∀ x, x < j + 1 → l.getD x 0 = E.getD x 0 from fun x hx => by
                      by_cases e : x = j
                      · rw [e]; exact hd
                      · exact HEq.out x (by omega))
                    rw [← hd] at cb
                    clear heq hb hcl hd
                    generalize l.getD j 0 = y at *
                    go_wp2_with fail
                    go_quiet (fail)
                    go_wp2_with fail
                    go_roundw
                    case rel => exact ⟨j + 1, by omega, by go_num, HD.out, below_drewN HB2.out _⟩
                    case measure => simp [intOf]; omega
                  · have HNo := Lib.hid (show ¬ okF l (p : Int) from fun h => hd (by rw [HFit.out.1 h]))
                    have z0 := DV.out.box.cell 0
                    have z1 := DV.out.box.cell 1
                    have z2 := DV.out.box.cell 2
                    have u0 := DV.out.box.frozen 0
                    have u1 := DV.out.box.frozen 1
                    have u2 := DV.out.box.frozen 2
                    have hdi : (((l.getD j 0 : Nat) : Int) != ((E.getD j 0 : Nat) : Int)) = true := by rw [bne_iff_ne]; omega
                    have hBl := Lib.hid (fun m => below_drewN DV.out.bel m)
                    clear heq hb hcl hd
                    generalize l.getD j 0 = y at *
                    generalize E.getD j 0 = y' at *
                    go_wp2_with fail
                    go_quiet (fail)
                    go_wp2_with fail
                    exact bodyPost_ret (v := .tuple #[noFrame, .int .i64 4]) (by simp [results, Tryd.results6, go_sem, noFrame, z0, z1, z2]) rfl
                      (RDec.no HNo.out (by omega) ((((hBl.out _).setCell (p := ⟨w.heap.size, 0, none⟩) (Nat.le_refl _) _).setCell (p := ⟨w.heap.size, 1, none⟩) (Nat.le_refl _) _).setCell (p := ⟨w.heap.size, 2, none⟩) (Nat.le_refl _) _))
                · obtain rfl : j = 256 := by omega
                  have HYes := Lib.hid (HFit.out.2 (HEx.out HEq.out))
                  have SV2 := Lib.hid (SV.out.bel hb)
                  have BV2 := Lib.hid (BV.out.bel hb)
                  have z0 := DV.out.box.cell 0
                  have z1 := DV.out.box.cell 1
                  have z2 := DV.out.box.cell 2
                  have u0 := DV.out.box.frozen 0
                  have u1 := DV.out.box.frozen 1
                  have u2 := DV.out.box.frozen 2
                  have a0 := BV2.out.cell 0
                  have a1 := BV2.out.cell 1
                  have a2 := BV2.out.cell 2
                  clear heq hb
                  go_wp2_with fail
                  exact bodyPost_ret (v := .tuple #[.agg #[.int .i64 (k : Int), .int .u64 (LE : Int), .slice A1 G c1], .int .i64 0]) (by simp [results, Tryd.results6, go_sem, z0, z1, z2]) rfl
                    (RDec.yes HYes.out HSay.out K3.out hc1 (((SV2.out.far FR.out 0 _).far FR.out 1 _).far FR.out 2 _) (((DV.out.bel.setCell (p := ⟨w.heap.size, 0, none⟩) (Nat.le_refl _) _).setCell (p := ⟨w.heap.size, 1, none⟩) (Nat.le_refl _) _).setCell (p := ⟨w.heap.size, 2, none⟩) (Nat.le_refl _) _) FR.out)
            · have hno : ¬ okF l place := by
                rintro ⟨_, a, ha, ha2, _, _⟩
                have hok : okN (X : Int) place := ⟨by omega, by omega, by omega, by omega⟩
                unfold errN at her
                rw [if_pos hok, if_neg (by rw [← K3.out]; omega)] at her
                exact her rfl
              have HNo := Lib.hid hno
              have her' : (errN (X : Int) place PL.length != 0) = true := by rw [bne_iff_ne]; exact her
              have DV := DW2
              have z0 := DV.out.box.cell 0
              have z1 := DV.out.box.cell 1
              have z2 := DV.out.box.cell 2
              have u0 := DV.out.box.frozen 0
              have u1 := DV.out.box.frozen 1
              have u2 := DV.out.box.frozen 2
              clear hno her
              generalize errN (X : Int) place PL.length = er at *
              go_wp2_with fail
              exact bodyPost_ret (v := .tuple #[noFrame, .int .i64 4]) (by simp [results, Tryd.results6, go_sem, noFrame, z0, z1, z2]) rfl
                (RDec.no HNo.out (by omega) (((DV.out.bel.setCell (p := ⟨w.heap.size, 0, none⟩) (Nat.le_refl _) _).setCell (p := ⟨w.heap.size, 1, none⟩) (Nat.le_refl _) _).setCell (p := ⟨w.heap.size, 2, none⟩) (Nat.le_refl _) _))
          · clear hS
            rename_i hHeld
            have DX := hHeld.2
            clear hHeld
            go_wp2_with fail
            have SX := ((SG.out.ne FB.out 0 (.int .i64 (X : Int))).ne FB.out 1 (.int .u64 (LE : Int))).ne FB.out 2 (.slice A1 G c1)
            have BX : Bk (((w'.setCell ⟨w1.heap.size, 0, none⟩ (.int .i64 (X : Int))).setCell ⟨w1.heap.size, 1, none⟩ (.int .u64 (LE : Int))).setCell ⟨w1.heap.size, 2, none⟩ (.slice A1 G c1)) (w1.heap.size) 30 #[.int .i64 (X : Int), .int .u64 (LE : Int), .slice A1 G c1] := ((XR.out.put 0 _).put 1 _).put 2 _
            have FR := Lib.hid (show ∀ a, A1 = some a → w.heap.size < a.block from fun a ha => by have h1 := FF.out A1 c1 rfl a ha; have h2 := HWl.out; omega)
            clear y0 y1 y2 f0 f1 f2
            generalize ((w'.setCell ⟨w1.heap.size, 0, none⟩ (.int .i64 (X : Int))).setCell ⟨w1.heap.size, 1, none⟩ (.int .u64 (LE : Int))).setCell ⟨w1.heap.size, 2, none⟩ (.slice A1 G c1) = w9 at *
            generalize hg9 : w1.heap.size = g9 at *
            clear hg9
            have DW := Lib.hid DX
            have SW := Lib.hid SX
            have BW := Lib.hid BX
            clear DX SX BX
            refine (refenc_res (X : Int) LE place A1 G c1 PL K3.out hLEl _ SW.out HPB.out).mono ?_
            rintro e w10 ⟨A', m', c', rfl, hR, b10⟩
            have DW2 := Lib.hid (DW.out.step b10)
            have SV := Lib.hid (SW.out.bel b10)
            have BV := Lib.hid (BW.out.bel b10)
            clear b10
            rcases hR with ⟨k, p, hk, hp, her, rfl, hse⟩ | ⟨her, rfl, rfl⟩
            · obtain rfl : k = X := by omega
              subst hp
              have hok : okN (k : Int) (p : Int) := by
                by_cases h : okN (k : Int) (p : Int)
                · exact h
                · unfold errN at her; rw [if_neg h] at her; omega
              obtain ⟨q1, q2, q3, q4⟩ := hok
              have l232 : PL.length ≤ 232 := by rw [← K3.out]; exact h232
              have hEl := encN_length k LE PL p l232
              have HFit := Lib.hid (show okF l (p : Int) ↔ l = encN k LE PL p by
                constructor
                · rintro ⟨_, a, ha, _, _, he⟩
                  rw [HSay.out] at he
                  rw [← he]
                  congr 1
                  omega
                · intro he
                  exact ⟨HN.out.symm, p, rfl, by omega, by rw [HGG.out]; exact h232, by rw [HSay.out]; exact he.symm⟩)
              rw [her]
              obtain ⟨be, oe, rfl, hce⟩ := seg_getD hse hEl.symm
              have HCe := Lib.hid hce
              have HSl := Lib.hid DW2.out.seg
              have HEx := Lib.hid (list_ext l (encN k LE PL p) HN.out hEl.symm)
              clear hce hse her hEl
              generalize encN k LE PL p = E at *
              go_wp2_with fail
              go_loopw [66] (fun i wr => ∃ j : Nat, j ≤ 256 ∧ i = .int .i64 j ∧ (∀ x, x < j → l.getD x 0 = E.getD x 0) ∧ Below w10.heap.size w10 wr) (fun i _ => 256 - (intOf i).toNat)
              case atStart => exact ⟨0, by omega, rfl, fun x h => by omega, Below.refl _ _⟩
              case round =>
                obtain ⟨j, hj, rfl, heq, hb⟩ := hrel
                have HEq := Lib.hid heq
                have HB2 := Lib.hid hb
                have DV := Lib.hid (DW2.out.step hb)
                by_cases hlt : j < 256
                · have i1 : (0 : Int) ≤ (j : Int) := by omega
                  have i2 : (j : Int) < 256 := by omega
                  obtain ⟨b', o', e', hcl⟩ := seg_getD DV.out.seg HN.out
                  injection e' with e'
                  injection e' with e1 e2
                  subst e1 e2
                  have ca := hcl j hlt
                  have cb := HCe.out j hlt
                  rw [← hb.cell (p := ⟨be, oe + j, none⟩) (cell_lt cb)] at cb
                  have hxa := getD_lt HL.out j
                  by_cases hd : l.getD j 0 = E.getD j 0
                  · have HD := Lib.hid (show ∀ x, x < j + 1 → l.getD x 0 = E.getD x 0 from fun x hx => by
                      by_cases e : x = j
                      · rw [e]; exact hd
                      · exact HEq.out x (by omega))
                    rw [← hd] at cb
                    clear heq hb hcl hd
                    generalize l.getD j 0 = y at *
                    go_wp2_with fail
                    go_quiet (fail)
                    go_wp2_with fail
                    go_roundw
                    case rel => exact ⟨j + 1, by omega, by go_num, HD.out, below_drewN HB2.out _⟩
                    case measure => simp [intOf]; omega
                  · have HNo := Lib.hid (show ¬ okF l (p : Int) from fun h => hd (by rw [HFit.out.1 h]))
                    have z0 := DV.out.box.cell 0
                    have z1 := DV.out.box.cell 1
                    have z2 := DV.out.box.cell 2
                    have u0 := DV.out.box.frozen 0
                    have u1 := DV.out.box.frozen 1
                    have u2 := DV.out.box.frozen 2
                    have hdi : (((l.getD j 0 : Nat) : Int) != ((E.getD j 0 : Nat) : Int)) = true := by rw [bne_iff_ne]; omega
                    have hBl := Lib.hid (fun m => below_drewN DV.out.bel m)
                    clear heq hb hcl hd
                    generalize l.getD j 0 = y at *
                    generalize E.getD j 0 = y' at *
                    go_wp2_with fail
                    go_quiet (fail)
                    go_wp2_with fail
                    exact bodyPost_ret (v := .tuple #[noFrame, .int .i64 4]) (by simp [results, Tryd.results6, go_sem, noFrame, z0, z1, z2]) rfl
                      (RDec.no HNo.out (by omega) ((((hBl.out _).setCell (p := ⟨w.heap.size, 0, none⟩) (Nat.le_refl _) _).setCell (p := ⟨w.heap.size, 1, none⟩) (Nat.le_refl _) _).setCell (p := ⟨w.heap.size, 2, none⟩) (Nat.le_refl _) _))
                · obtain rfl : j = 256 := by omega
                  have HYes := Lib.hid (HFit.out.2 (HEx.out HEq.out))
                  have SV2 := Lib.hid (SV.out.bel hb)
                  have BV2 := Lib.hid (BV.out.bel hb)
                  have z0 := DV.out.box.cell 0
                  have z1 := DV.out.box.cell 1
                  have z2 := DV.out.box.cell 2
                  have u0 := DV.out.box.frozen 0
                  have u1 := DV.out.box.frozen 1
                  have u2 := DV.out.box.frozen 2
                  have a0 := BV2.out.cell 0
                  have a1 := BV2.out.cell 1
                  have a2 := BV2.out.cell 2
                  clear heq hb
                  go_wp2_with fail
                  exact bodyPost_ret (v := .tuple #[.agg #[.int .i64 (k : Int), .int .u64 (LE : Int), .slice A1 G c1], .int .i64 0]) (by simp [results, Tryd.results6, go_sem, z0, z1, z2]) rfl
                    (RDec.yes HYes.out HSay.out K3.out hc1 (((SV2.out.far FR.out 0 _).far FR.out 1 _).far FR.out 2 _) (((DV.out.bel.setCell (p := ⟨w.heap.size, 0, none⟩) (Nat.le_refl _) _).setCell (p := ⟨w.heap.size, 1, none⟩) (Nat.le_refl _) _).setCell (p := ⟨w.heap.size, 2, none⟩) (Nat.le_refl _) _) FR.out)
            · have hno : ¬ okF l place := by
                rintro ⟨_, a, ha, ha2, _, _⟩
                have hok : okN (X : Int) place := ⟨by omega, by omega, by omega, by omega⟩
                unfold errN at her
                rw [if_pos hok, if_neg (by rw [← K3.out]; omega)] at her
                exact her rfl
              have HNo := Lib.hid hno
              have her' : (errN (X : Int) place PL.length != 0) = true := by rw [bne_iff_ne]; exact her
              have DV := DW2
              have z0 := DV.out.box.cell 0
              have z1 := DV.out.box.cell 1
              have z2 := DV.out.box.cell 2
              have u0 := DV.out.box.frozen 0
              have u1 := DV.out.box.frozen 1
              have u2 := DV.out.box.frozen 2
              clear hno her
              generalize errN (X : Int) place PL.length = er at *
              go_wp2_with fail
              exact bodyPost_ret (v := .tuple #[noFrame, .int .i64 4]) (by simp [results, Tryd.results6, go_sem, noFrame, z0, z1, z2]) rfl
                (RDec.no HNo.out (by omega) (((DV.out.bel.setCell (p := ⟨w.heap.size, 0, none⟩) (Nat.le_refl _) _).setCell (p := ⟨w.heap.size, 1, none⟩) (Nat.le_refl _) _).setCell (p := ⟨w.heap.size, 2, none⟩) (Nat.le_refl _) _))
    · have hno : ¬ okF l place := fun h => by
        obtain ⟨_, a, _, _, h2, _⟩ := h
        rw [HGG.out] at h2
        omega
      have HNo := Lib.hid hno
      have f0 := BR.out.frozen 0
      have f1 := BR.out.frozen 1
      have f2 := BR.out.frozen 2
      have i6 : decide ((232 : Int) < (G : Int)) = true := by rw [decide_eq_true_iff]; omega
      clear hno
      go_enter Tryd.func6, Tryd.ntmps6
      go_wp2_with fail
      generalize w.alloc (.cells #[.int .i64 0, .int .u64 0, .slice none 0 0] 30) = w1 at *
      go_quiet (fail)
      clear t1 t2 t3 t4
      go_wp2_with fail
      exact bodyPost_ret (v := .tuple #[noFrame, .int .i64 4]) (by simp [results, Tryd.results6, go_sem, noFrame, z0, z1, z2]) rfl (RDec.no HNo.out (by omega) (((below_drewN HB.out _).setCell (p := ⟨w.heap.size, 0, none⟩) (Nat.le_refl _) _).setCell (p := ⟨w.heap.size, 1, none⟩) (Nat.le_refl _) _ |>.setCell (p := ⟨w.heap.size, 2, none⟩) (Nat.le_refl _) _))
  · have hno : ¬ okF l place := fun h => h256 (hn.trans h.1)
    have f0 := BR.out.frozen 0
    have f1 := BR.out.frozen 1
    have f2 := BR.out.frozen 2
    have hne : ((n : Int) != 256) = true := by rw [bne_iff_ne]; omega
    have HNo := Lib.hid hno
    clear hn hno
    go_enter Tryd.func6, Tryd.ntmps6
    go_wp2_with fail
    exact bodyPost_ret (v := .tuple #[noFrame, .int .i64 1]) (by simp [results, Tryd.results6, go_sem, noFrame, z0, z1, z2]) rfl (RDec.no HNo.out (by omega) HB.out)
end Go.Proofs.YtpkajmgfechhhaaDoor
