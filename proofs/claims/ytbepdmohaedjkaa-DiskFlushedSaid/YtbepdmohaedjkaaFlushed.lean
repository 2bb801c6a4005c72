/- The walk of DiskFlushed. Condition: the calls lie in memory. -/
import Derived.Test.YtbepdmohaedjkaaDiskN
import Derived.Test.YtbepdmohaedjkaaLoads
namespace Go.Proofs.Ytbepdmohaedjkaa
open Go.RowKit

theorem Kp.grown {S S' : Nat → Prop} {a w w' : World} {row : Option Nat} (h : Kp S S' a w) (hg : w.grownBy w' row) (hr : ∀ g, row = some g → S g ∨ a.heap.size ≤ g) : Kp S S' a w' :=
  ⟨hg.os.trans h.os, hg.tape.trans h.tape, hg.output.trans h.output, Nat.le_trans h.size hg.size, fun i hi hn => (hg.block i (Nat.lt_of_lt_of_le hi h.size) (fun e => by
    rcases hr i e.symm with h1 | h1
    · exact hn h1
    · omega)).trans (h.block i hi hn), h.news⟩
theorem OpsAt.aside {w w' : World} {A : Option Addr} {ops : List OpM} {S S' : Nat → Prop} (h : OpsAt w A ops) (hk : Kp S S' w w') (hn : ∀ i, S i → ∀ o, w.cell? ⟨i, o, none⟩ = none) : OpsAt w' A ops := fun k hkl => by
  obtain ⟨b, off, Ad, c, h1, h2, h3, h4⟩ := h k hkl
  have hb : w.cell? ⟨b, off + k * 6 + 0, none⟩ = some (.int .i64 (ops[k]'hkl).kind) := h2 0 _ rfl
  refine ⟨b, off, Ad, c, h1, fun j u hj => ?_, fun he => ?_, h4⟩
  · rw [hk.cell (World.block_lt_of_cell? w _ hb) (fun hs => by rw [hn _ hs] at hb; cases hb)]
    exact h2 j u hj
  · refine hk.seg h3 (fun p hp hs => ?_) he
    obtain ⟨b', off', e, _, hc⟩ := h3 he
    subst hp
    injection e with e
    subst e
    have hpos : 0 < (u8s (ops[k]'hkl).data).length := by
      rcases hl : (u8s (ops[k]'hkl).data) with _ | ⟨y, ys⟩
      · exact absurd hl he
      · simp
    have h0 := hc 0 hpos
    rw [hn _ hs, List.getElem?_eq_getElem hpos] at h0
    cases h0
theorem fl_get (f : OpM → List Value) (hf : ∀ o, (f o).length = 6) : ∀ (os : List OpM) (i j : Nat) (hi : i < os.length), j < 6 → (os.flatMap f)[i * 6 + j]? = (f os[i])[j]?
  | o :: r, 0, j, _, hj => by
    rw [List.flatMap_cons, List.getElem?_append_left (by rw [hf]; omega)]
    simp
  | o :: r, i + 1, j, hi, hj => by
    rw [List.flatMap_cons, List.getElem?_append_right (by rw [hf]; omega), hf, show (i + 1) * 6 + j - 6 = i * 6 + j by omega, fl_get f hf r i j (by simpa using hi) hj]
    simp
theorem OpIn.pushes {w w' : World} {base : Nat} {v : Value} {os os2 : List OpM} {xs : List Value} {g cap k m : Nat} (hk : os.length = k) (hm : os2.length = m) (hx : xs.length = k * 6) (h2 : opAll w v os xs) (hd : ∀ o ∈ os2, o.data = [] ∧ o.keep < 18446744073709551616)
    (h1 : w'.ownsRow base 36 6 (.slice (some ⟨g, 0, none⟩) (k + m) cap) (k + m) (xs ++ os2.flatMap fun o => o.cl none 0)) (hg : w.grownBy w' v.ownBlock) (hgg : v.ownBlock = some g ∨ g = w.heap.size) : OpIn w' base (.slice (some ⟨g, 0, none⟩) (k + m) cap) (os ++ os2) := by
  subst hk
  subst hm
  refine ⟨_, by rw [List.length_append]; exact h1, fun i hi => ?_⟩
  rw [List.length_append] at hi
  by_cases hlt : i < os.length
  · obtain ⟨A, c, a1, a2, a3⟩ := h2 i hlt
    refine ⟨A, c, fun j hj => ?_, ?_, ?_⟩
    · rw [List.getElem?_append_left (by omega), List.getElem_append_left hlt]; exact a1 j hj
    · rw [List.getElem_append_left hlt]; exact a2.grow hg hgg
    · rw [List.getElem_append_left hlt]; exact a3
  · have e : (os ++ os2)[i]'(by simp; omega) = os2[i - os.length]'(by omega) := by rw [List.getElem_append_right (by omega)]
    rw [e]
    obtain ⟨hd1, hd2⟩ := hd (os2[i - os.length]'(by omega)) (List.getElem_mem _)
    refine ⟨none, 0, fun j hj => ?_, fun hn => absurd (by rw [hd1]; rfl) hn, by rw [hd1]; exact Nat.le_refl _, Nat.zero_le _, hd2, by rw [hd1]; exact Nat.zero_le _⟩
    rw [List.getElem?_append_right (by omega), hx, show i * 6 + j - os.length * 6 = (i - os.length) * 6 + j by omega]
    exact fl_get _ (fun _ => rfl) os2 (i - os.length) j (by omega) hj
theorem plS_append (T : Nat) (D : DM) (l x : List OpM) : ∀ k, k ≤ l.length → plS T D (l ++ x) k = plS T D l k
  | 0, _ => rfl
  | k + 1, hk => by
    have hg : (l ++ x).getD k ⟨0, 0, [], 0, 0, 0⟩ = l.getD k ⟨0, 0, [], 0, 0, 0⟩ := by
      simp only [List.getD_eq_getElem?_getD]
      rw [List.getElem?_append_left (by omega)]
    simp only [plS, plS_append T D l x k (by omega), hg]
theorem plS_one (T : Nat) (D : DM) (l : List OpM) (o : OpM) : (plS T D (l ++ [o]) (l.length + 1)).1 = (plStep T (plS T D l l.length).1 o).1 := by
  have hg : (l ++ [o]).getD l.length ⟨0, 0, [], 0, 0, 0⟩ = o := by simp [List.getD]
  simp only [plS, plS_append T D l [o] l.length (Nat.le_refl _), hg]
theorem step_off {T : Nat} {D : DM} {o : OpM} (h : D.arm = false) : (plStep T D o).1.arm = false := by
  unfold plStep doR
  rw [DM.use_off h]
  by_cases h1 : o.kind = 1
  · rw [if_pos h1]
    by_cases hb : (0 ≤ o.block ∧ o.block < (T : Int)) ∧ o.data.length = 256
    · rw [if_pos hb]
      by_cases hf : D.wts.length < 64
      · simp only [if_pos hf]
        exact h
      · simp only [if_neg hf]
        exact h
    · rw [if_neg hb]
      exact h
  · rw [if_neg h1]
    by_cases h2 : o.kind = 2
    · rw [if_pos h2]
      by_cases hb : 0 ≤ o.block ∧ o.block < (T : Int)
      · rw [if_pos hb]
        exact h
      · rw [if_neg hb]
        exact h
    · rw [if_neg h2]
      by_cases h3 : o.kind = 3
      · rw [if_pos h3]
        exact h
      · rw [if_neg h3]
        by_cases h4 : o.kind = 4
        · rw [if_pos h4]
          rfl
        · rw [if_neg h4]
          exact h
theorem plS_off {T : Nat} {D : DM} {ops : List OpM} (h : D.arm = false) : ∀ k, (plS T D ops k).1.arm = false
  | 0 => h
  | k + 1 => step_off (plS_off h k)
theorem landN_congr {f g : Nat → Nat} (img : List Nat) (wts : List (Nat × List Nat)) : ∀ n, (∀ k, k < n → f k = g k) → landN f img wts n = landN g img wts n
  | 0, _ => rfl
  | n + 1, h => by
    simp only [landN]
    rw [landN_congr img wts n (fun k hk => h k (by omega)), h n (by omega)]
/-- A flush. -/
def flO' : OpM := ⟨3, 0, [], 0, 0, 0⟩
/-- A crash. -/
def crO (keep : Nat) (tear sectors : Int) : OpM := ⟨4, 0, [], keep, tear, sectors⟩
theorem step_flush {T : Nat} {D : DM} (h : D.arm = false) : (plStep T D flO').1 = D.flush := by
  unfold plStep doR flO'
  rw [DM.use_off h]
  rfl
theorem step_crash (T : Nat) (D : DM) (keep : Nat) (tear sectors : Int) : (plStep T D (crO keep tear sectors)).1 = D.crash keep tear sectors := rfl
theorem crash_flushed (D : DM) (keep : Nat) (tear sectors : Int) : (D.flush.crash keep tear sectors).img = D.flush.img := rfl
theorem crash_all {D : DM} (h : D.wts.length ≤ 64) : (D.crash 18446744073709551615 0 0).img = D.flush.img := by
  refine landN_congr _ _ _ (fun k hk => ?_)
  unfold crashS
  rw [if_pos]
  rw [show (18446744073709551615 : Nat) = 2 ^ 64 - 1 by decide]
  rw [Nat.testBit_two_pow_sub_one]
  simp
  omega
theorem new_off (T : Nat) : ((DM.new T).armed (-1)).arm = false := by simp [DM.armed]
theorem img_a (T : Nat) (D : DM) (h : D.arm = false) (ls : List OpM) (q : Nat) (hq : q = ls.length) : (plS T D (ls ++ [flO']) (q + 1)).1.img = (plS T D ls q).1.flush.img := by
  subst hq
  rw [plS_one, step_flush (plS_off h _)]
theorem img_b (T : Nat) (D : DM) (h : D.arm = false) (ls : List OpM) (q : Nat) (hq : q = ls.length) (keep : Nat) (tear sectors : Int) : (plS T D (ls ++ [flO', crO keep tear sectors]) (q + 2)).1.img = (plS T D ls q).1.flush.img := by
  subst hq
  have e : ls ++ [flO', crO keep tear sectors] = (ls ++ [flO']) ++ [crO keep tear sectors] := by simp
  have e2 : ls.length + 2 = (ls ++ [flO']).length + 1 := by simp
  rw [e, e2, plS_one, step_crash]
  have e3 : (ls ++ [flO']).length = ls.length + 1 := by simp
  rw [e3, plS_one, step_flush (plS_off h _)]
  rfl
theorem img_c (T : Nat) (D : DM) (hk : D.Ok T) (ls : List OpM) (q : Nat) (hq : q = ls.length) : (plS T D (ls ++ [crO 18446744073709551615 0 0]) (q + 1)).1.img = (plS T D ls q).1.flush.img := by
  subst hq
  rw [plS_one, step_crash]
  exact crash_all (plS_ok hk _).few
section
variable {w : World}
theorem flushed_no (T : Int) (v : Value) (keep tear sectors : Value) (hb : ¬ (1 ≤ T ∧ T ≤ 16)) :
    Calls Try.prog 5 #[.int .i64 T, v, keep, tear, sectors] w fun e w' => e = .returned (.bool true) ∧ Below w.heap.size w w' := by
  rcases (show T < 1 ∨ (¬ T < 1 ∧ 16 < T) by omega) with h1 | ⟨h1, h2⟩
  all_goals
    clear hb
    go_enter Try.func5, Try.ntmps5
    go_wp2_with (go_at_call 15; refine awake_any.mono ?_; rintro e w7 ⟨rfl, hb7⟩; have HB7 := Lib.hid hb7; clear hb7)
    go_ret
    exact ⟨rfl, HB7.out⟩
/-- The calls that are no crash. -/
def noCr (os : List OpM) : List OpM := os.filter fun o => decide (o.kind ≠ 4)
set_option maxRecDepth 100000 in
set_option maxHeartbeats 16000000 in
theorem flushed_ok (T : Nat) (hT1 : 1 ≤ T) (hT2 : T ≤ 16) (A : Option Addr) (n c : Nat) (ops : List OpM) (hn : n = ops.length) (hO : OpsAt w A ops) (keep : Nat) (hkeep : keep < 18446744073709551616) (tear sectors : Int) :
    Calls Try.prog 5 #[.int .i64 (T : Int), .slice A n c, .int .u64 (keep : Int), .int .i64 tear, .int .i64 sectors] w fun e w' => e = .returned (.bool true) ∧ Below w.heap.size w w' := by
  obtain ⟨j0, hi0, hz0, hz1, hz2⟩ := info_parts info_op
  have hlit := World.ownsRow_lit (base := w.heap.size) (e := 36) (size := 6) w #[] 0 (Nat.le_refl _) (Nat.zero_le _) rfl
  have HB0 := Lib.hid ((Below.refl w.heap.size w).alloc (Nat.le_refl _) (.cells #[] 36))
  have HF := Lib.hid (few_any A c ops n hn (hO.bel ((Below.refl _ _).alloc (Nat.le_refl _) (.cells #[] 36))))
  have HNone := Lib.hid (show ∀ o, (w.alloc (.cells #[] 36)).cell? ⟨w.heap.size, o, none⟩ = none from fun o => by rw [(Bk.new w 36 #[]).cell o]; simp)
  have HLit := Lib.hid hlit
  have HKP := Lib.hid hkeep
  have g1 : ¬ (T : Int) < 1 := by omega
  have g2 : ¬ (16 : Int) < (T : Int) := by omega
  clear hn hO hlit hkeep
  go_enter Try.func5, Try.ntmps5
  go_wp2_with fail
  refine HF.out.mono ?_
  rintro e w2 ⟨AF, cF, rfl, hcF, hIF, hbF⟩
  have hl200 : (ops.take 200).length ≤ 200 := by rw [List.length_take]; omega
  generalize ops.take 200 = os at *
  have HAF := Lib.hid hIF.at
  have HB2 := Lib.hid (HB0.out.trans (hbF.mono HB0.out.size))
  have HSz := Lib.hid (show w.heap.size < w2.heap.size by have := hbF.size; simp at this; omega)
  have HN2 := Lib.hid (show ∀ o, w2.cell? ⟨w.heap.size, o, none⟩ = none from fun o => by rw [hbF.cell (p := ⟨w.heap.size, o, none⟩) (by simp)]; exact HNone.out o)
  have HI2 := Lib.hid (show OpIn w2 w.heap.size (.slice (some ⟨w.heap.size, 0, none⟩) 0 0) [] from ⟨[], own_bel6 HLit.out hbF, fun i hi => by simp at hi⟩)
  obtain ⟨m, hm⟩ : ∃ m, m = os.length := ⟨_, rfl⟩
  rw [← hm] at hcF hl200
  have HM := Lib.hid hm
  clear hIF hbF
  simp only [← hm]
  clear hm
  go_wp2_with fail
  go_loopw [11, 34] (fun v i wr => ∃ k : Nat, k ≤ m ∧ i = .int .i64 k ∧ Hid (OpIn wr w.heap.size v (noCr (os.take k))) ∧ Hid (Kp (fun q => q = w.heap.size) (fun q => q = w.heap.size) w2 wr) ∧ Hid (∀ q, v.ownBlock = some q → q = w.heap.size ∨ w2.heap.size ≤ q) ∧ Hid (Below w.heap.size w wr)) (fun _ i _ => m - (intOf i).toNat)
  case atStart => exact ⟨0, Nat.zero_le _, rfl, HI2, Lib.hid (Kp.refl _ _), Lib.hid (fun q hq => by simp [Value.ownBlock] at hq; exact .inl hq.symm), HB2⟩
  case round =>
    obtain ⟨k, hk, rfl, HI, HK, HV, HB⟩ := hrel
    obtain ⟨Av, cv, hv, hcv⟩ := HI.out.shape
    subst hv
    have HAt := Lib.hid (HAF.out.aside HK.out (fun q hq o => by subst hq; exact HN2.out o))
    by_cases hlt : k < m
    · have hkl : k < os.length := by rw [← HM.out]; exact hlt
      obtain ⟨b, off, Ad, ca, e1, hra, hsd, hca, hcm, hkp, hdl⟩ := HAt.out k hkl
      obtain ⟨b', off', Ad', ca', e1', hra', hsd', _⟩ := HAF.out k hkl
      obtain ⟨rfl, rfl⟩ : b = b' ∧ off = off' := by
        rw [e1] at e1'
        injection e1' with e1'
        injection e1' with h1 h2 _
        exact ⟨h1, h2⟩
      subst e1
      have hAd : Ad = Ad' := by
        have h1 := hra' 2 _ rfl
        have h2 := hra 2 _ rfl
        have hlt2 := World.block_lt_of_cell? w2 _ h1
        rw [HK.out.cell hlt2 (fun hs => by have hs' : b = w.heap.size := hs; rw [hs', HN2.out] at h1; cases h1), h1] at h2
        injection h2 with h2
        injection h2 with h2
        exact h2.symm
      subst hAd
      have HTK := Lib.hid (show os.take (k + 1) = os.take k ++ [os[k]] by rw [List.take_succ_eq_append_getElem hkl])
      have HSD := Lib.hid hsd
      have HSD2 := Lib.hid hsd'
      have HRA := Lib.hid hra
      obtain ⟨xs, hx1, hx2⟩ := HI.out
      have HNC := Lib.hid (show (noCr (os.take k)).length = (noCr (os.take k)).length from rfl)
      have hnl : (noCr (os.take k)).length ≤ 200 := Nat.le_trans (List.length_filter_le _ _) (by rw [List.length_take]; omega)
      obtain ⟨q, hq⟩ : ∃ q, q = (noCr (os.take k)).length := ⟨_, rfl⟩
      rw [← hq] at hx1 hnl hcv ⊢
      have HQ := Lib.hid hq
      have HX1 := Lib.hid hx1
      have HX2 := Lib.hid hx2
      clear hra hsd hra' hsd' hx1 hx2 hq
      have HO := Lib.hid (show os[k] = os[k] from rfl)
      generalize os[k] = o at *
      have i1 : (k : Int) < (m : Int) := by omega
      have HSO := Lib.hid (show (Try.prog.info? 36).map (·.size) = some (o.cl Ad ca).length by rw [size_op]; rfl)
      have HS2 := Lib.hid (show (Try.prog.info? 36).map (·.size) = some (o.cl Ad ca).toArray.size by rw [size_op]; rfl)
      have HO1 := Lib.hid (all_oneCell_toArray (cl_one o Ad ca))
      have HZ6 := Lib.hid (show (#[.int .i64 0, .int .i64 0, .slice none 0 0, .int .u64 0, .int .i64 0, .int .i64 0] : Array Value).size = (o.cl Ad ca).toArray.size by rfl)
      have HB4 := Lib.hid (show (wr.alloc (.cells #[.int .i64 0, .int .i64 0, .slice none 0 0, .int .u64 0, .int .i64 0, .int .i64 0] 36)).heap[wr.heap.size]? = some (.cells #[.int .i64 0, .int .i64 0, .slice none 0 0, .int .u64 0, .int .i64 0, .int .i64 0] 36 (0, 0)) from Bk.new wr _ _)
      have HLC := Lib.hid (show (o.cl Ad ca).toArray = o.cells Ad ca from rfl)
      have hX := Bk.new wr 36 (o.cells Ad ca)
      have c0 : (wr.alloc (.cells (o.cells Ad ca) 36)).cell? ⟨wr.heap.size, 0, none⟩ = some (.int .i64 o.kind) := hX.cell 0
      have HR6 := Lib.hid (show (wr.alloc (.cells (o.cells Ad ca) 36)).rangeAt wr.heap.size 0 [.int .i64 o.kind, .int .i64 o.block, .slice Ad o.data.length ca, .int .u64 (o.keep : Int), .int .i64 o.tear, .int .i64 o.sectors] from fun j u hj => by rw [Nat.zero_add, hX.cell j, ← hj]; simp [OpM.cells])
      have HSO6 := Lib.hid (show (Try.prog.info? 36).map (·.size) = some ([.int .i64 o.kind, .int .i64 o.block, .slice Ad o.data.length ca, .int .u64 (o.keep : Int), .int .i64 o.tear, .int .i64 o.sectors] : List Value).length by rw [size_op]; rfl)
      have HBW := Lib.hid (show Below wr.heap.size wr ((wr.alloc (.cells (o.cells Ad ca) 36)).alloc (.cells #[.int .i64 o.kind, .int .i64 o.block, .slice Ad o.data.length ca, .int .u64 (o.keep : Int), .int .i64 o.tear, .int .i64 o.sectors] 36)) from ((Below.refl _ _).alloc (Nat.le_refl _) _).alloc (by simp) _)
      have HN7 := Lib.hid (show ∀ j u, ([.int .i64 o.kind, .int .i64 o.block, .slice Ad o.data.length ca, .int .u64 (o.keep : Int), .int .i64 o.tear, .int .i64 o.sectors] : List Value)[j]? = some u → ((wr.alloc (.cells (o.cells Ad ca) 36)).alloc (.cells #[.int .i64 o.kind, .int .i64 o.block, .slice Ad o.data.length ca, .int .u64 (o.keep : Int), .int .i64 o.tear, .int .i64 o.sectors] 36)).cell? ((⟨wr.heap.size + 1, 0, none⟩ : Addr).add j) = some u from World.news_of_block (cs := #[.int .i64 o.kind, .int .i64 o.block, .slice Ad o.data.length ca, .int .u64 (o.keep : Int), .int .i64 o.tear, .int .i64 o.sectors]) (t := 36) (fr := (0, 0)) (by have := Bk.new (wr.alloc (.cells (o.cells Ad ca) 36)) 36 #[.int .i64 o.kind, .int .i64 o.block, .slice Ad o.data.length ca, .int .u64 (o.keep : Int), .int .i64 o.tear, .int .i64 o.sectors]; rw [show (wr.alloc (.cells (o.cells Ad ca) 36)).heap.size = wr.heap.size + 1 by simp] at this; exact this))
      clear hX
      by_cases h4 : o.kind = 4
      · have hd : (o.kind != 4) = false := by simp [h4]
        have HTN := Lib.hid (show noCr (os.take (k + 1)) = noCr (os.take k) by rw [HTK.out]; simp [noCr, h4])
        clear h4
        go_wp2_with (first
          | (with_reducible refine wpList_load_mid rfl 36 _ rfl b (off + k * 6) rfl (o.cl Ad ca) _ HRA.out Try.underlying36 rfl HSO.out ?_)
          | (with_reducible refine wpList_store_row rfl 36 _ _ rfl wr.heap.size (o.cl Ad ca).toArray rfl rfl 36 #[.int .i64 0, .int .i64 0, .slice none 0 0, .int .u64 0, .int .i64 0, .int .i64 0] HB4.out HS2.out HZ6.out HO1.out ?_; rw [World.setRow_alloc_new, HLC.out]))
        refine ⟨⟨k + 1, by omega, by go_num, Lib.hid ?_, Lib.hid (HK.out.alloc _), Lib.hid (by have := HV.out; rw [← HQ.out] at this; exact this), Lib.hid (HB.out.alloc HB.out.size _)⟩, by simp [intOf]; omega⟩
        rw [HTN.out, HQ.out]
        exact HI.out.bel ((Below.refl _ _).alloc (Nat.le_refl _) _)
      · have hd : (o.kind != 4) = true := by simp [h4]
        have HTN := Lib.hid (show noCr (os.take (k + 1)) = noCr (os.take k) ++ [o] by rw [HTK.out]; simp [noCr, h4])
        clear h4
        go_wp2_with (first
          | (with_reducible refine wpList_load_mid rfl 36 _ rfl b (off + k * 6) rfl (o.cl Ad ca) _ HRA.out Try.underlying36 rfl HSO.out ?_)
          | (with_reducible refine wpList_store_row rfl 36 _ _ rfl wr.heap.size (o.cl Ad ca).toArray rfl rfl 36 #[.int .i64 0, .int .i64 0, .slice none 0 0, .int .u64 0, .int .i64 0, .int .i64 0] HB4.out HS2.out HZ6.out HO1.out ?_; rw [World.setRow_alloc_new, HLC.out])
          | (with_reducible refine wpList_load_mid rfl 36 _ rfl wr.heap.size 0 rfl [.int .i64 o.kind, .int .i64 o.block, .slice Ad o.data.length ca, .int .u64 (o.keep : Int), .int .i64 o.tear, .int .i64 o.sectors] _ HR6.out Try.underlying36 rfl HSO6.out ?_)
          | (at_builtin; (refine wpList_append_lies _ rfl _ _ _ rfl w.heap.size 36 j0 _ 6 64 Try.underlying22 hi0 hz0 hz1 hz2 rfl (by omega) _ q xs rfl (own_bel6 HX1.out HBW.out) ⟨wr.heap.size + 1, 0, none⟩ 1 1 [.int .i64 o.kind, .int .i64 o.block, .slice Ad o.data.length ca, .int .u64 (o.keep : Int), .int .i64 o.tear, .int .i64 o.sectors] rfl rfl HN7.out (cl_one o Ad ca) (by omega) (by unfold maxLen; omega) (by omega) (by have h1 := HB.out.size; simp; omega) _ rfl ?_); intro g cap w8 hown hgrow hat hlt8; have HO8 := Lib.hid hown; have HG8 := Lib.hid hgrow; have HAT := Lib.hid hat; clear hown hgrow hat hlt8))
        have hP := OpIn.push (o := o) (A := Ad) (c := ca) HQ.out.symm (by rw [HX1.out.1]) (fun i hi => by
          obtain ⟨A, c, a1, a2, a3⟩ := HX2.out i hi
          rw [← HQ.out] at a2
          exact ⟨A, c, a1, a2.bel HBW.out, a3⟩) (fun hne => by
            obtain ⟨b1, o1, h1, h2, h3⟩ := HSD2.out hne
            obtain ⟨b2, o2, h4, h5, h6⟩ := (HSD.out.bel HBW.out) hne
            rw [h1] at h4
            injection h4 with h4
            injection h4 with h7 h8 _
            subst h7
            subst h8
            refine ⟨b1, o1, h1, h5, fun e => ?_, h6⟩
            have hv := HV.out
            rw [← HQ.out] at hv
            rcases hv b1 e with h9 | h9
            · have hpos : 0 < (u8s o.data).length := by
                rcases hl : (u8s o.data) with _ | ⟨y, ys⟩
                · exact absurd hl hne
                · simp
              have h10 := h3 0 hpos
              rw [h9, HN2.out, List.getElem?_eq_getElem hpos] at h10
              cases h10
            · omega) hca hcm hkp hdl HO8.out HG8.out HAT.out
        have hv := HV.out
        rw [← HQ.out] at hv
        refine ⟨⟨k + 1, by omega, by go_num, Lib.hid ?_, Lib.hid (((HK.out.alloc _).alloc _).grown HG8.out hv), Lib.hid (fun g' hg' => ?_), Lib.hid ?_⟩, by simp [intOf]; omega⟩
        · rw [HTN.out]
          have hl1 : (noCr (os.take k) ++ [o]).length = q + 1 := by rw [List.length_append, ← HQ.out]; rfl
          exact hP
        · simp only [Value.ownBlock, Option.some.injEq] at hg'
          subst hg'
          rcases HAT.out with h | h
          · exact hv _ h
          · right
            have := HK.out.size
            simp at h
            omega
        · refine ((HB.out.alloc HB.out.size _).alloc (by have := HB.out.size; simp; omega) _).grown HG8.out ?_ (fun q hq => (HX1.out.lt q hq).1)
          have h1 := HB.out.size
          simp
          omega
    · have hkm : k = m := by omega
      have i1 : ¬ (k : Int) < (m : Int) := by omega
      have HTA := Lib.hid (show os.take k = os by rw [List.take_of_length_le (by rw [← HM.out]; omega)])
      simp only [HTA.out] at HI HV hcv ⊢
      have hq200 : (noCr os).length ≤ 200 := Nat.le_trans (List.length_filter_le _ _) (by rw [← HM.out]; exact hl200)
      generalize noCr os = ls at *
      obtain ⟨q, hq⟩ : ∃ q, q = ls.length := ⟨_, rfl⟩
      simp only [← hq] at HI hcv hq200 ⊢
      have HQ := Lib.hid hq
      have HT2 := Lib.hid (show ls.take 200 = ls from List.take_of_length_le (by omega))
      have HD0 := Lib.hid (DM.Ok.armed (DM.Ok.new T hT1 (by omega)) (-1) (by omega))
      clear hkm hq HK HV
      generalize hD : (DM.new T).armed (-1) = D at *
      have HDe := Lib.hid hD
      have HOff := Lib.hid (show D.arm = false by rw [← hD]; exact new_off T)
      clear hD
      have HIa := HI
      have HBa := HB
      have HFwa := Lib.hid (few_any Av cv ls q HQ.out HIa.out.at)
      rw [HT2.out] at HFwa
      go_wp2_with fail
      refine HFwa.out.mono ?_
      rintro e wFa ⟨AFa, cFa, rfl, hc, hI, hb⟩
      simp only [← HQ.out] at hc hI ⊢
      obtain ⟨xsa, hx1, hx2⟩ := hI
      rw [← HQ.out] at hx1
      have HX1a := Lib.hid hx1
      have HX2a := Lib.hid hx2
      have HFBa := Lib.hid hb
      have HNa := Lib.hid (show ∀ j u, ([.int .i64 3, .int .i64 0, .slice none 0 0, .int .u64 0, .int .i64 0, .int .i64 0] : List Value)[j]? = some u → (wFa.alloc (.cells #[.int .i64 3, .int .i64 0, .slice none 0 0, .int .u64 0, .int .i64 0, .int .i64 0] 36)).cell? ((⟨wFa.heap.size, 0, none⟩ : Addr).add j) = some u from World.news_of_block (cs := #[.int .i64 3, .int .i64 0, .slice none 0 0, .int .u64 0, .int .i64 0, .int .i64 0]) (t := 36) (fr := (0, 0)) (Bk.new wFa _ _))
      have HFla := Lib.hid (show ([.int .i64 3, .int .i64 0, .slice none 0 0, .int .u64 0, .int .i64 0, .int .i64 0] : List Value) = ([flO'] : List OpM).flatMap (fun o => o.cl none 0) from rfl)
      clear hx1 hx2 hb
      go_wp2_with (at_builtin; (refine wpList_append_lies _ rfl _ _ _ rfl wr.heap.size 36 j0 _ 6 64 Try.underlying22 hi0 hz0 hz1 hz2 rfl (by omega) _ q xsa rfl (HX1a.out.alloc _) ⟨wFa.heap.size, 0, none⟩ 1 1 [.int .i64 3, .int .i64 0, .slice none 0 0, .int .u64 0, .int .i64 0, .int .i64 0] rfl rfl HNa.out (by rw [HFla.out]; intro u hu; obtain ⟨o, _, ho⟩ := List.mem_flatMap.1 hu; exact cl_one o none 0 u ho) (by omega) (by unfold maxLen; omega) (by omega) (by have h1 := HFBa.out.size; simp; omega) _ rfl ?_); intro ga capa w8a hown hgrow hat hlt8; have HO8a := Lib.hid hown; have HG8a := Lib.hid hgrow; have HATa := Lib.hid hat; clear hown hgrow hat hlt8)
      have hPa := OpIn.pushes (os2 := [flO']) (m := 1) HQ.out.symm rfl (by rw [HX1a.out.1]) (fun i hi => by
        obtain ⟨A, c, a1, a2, a3⟩ := HX2a.out i hi
        exact ⟨A, c, a1, a2.bel ((Below.refl _ _).alloc (Nat.le_refl _) _), a3⟩) (by
          intro o ho
          simp only [List.mem_cons, List.not_mem_nil, or_false] at ho
          subst ho
          exact ⟨rfl, show (0 : Nat) < 18446744073709551616 by omega⟩
          skip) (by rw [← HFla.out]; exact HO8a.out) HG8a.out HATa.out
      have hb8a : Below wr.heap.size wr w8a := (HFBa.out.alloc HFBa.out.size _).grown HG8a.out (by have h1 := HFBa.out.size; simp; omega) (fun q hq => (HX1a.out.lt q hq).1)
      have HPla := Lib.hid (play_ok T hT1 (by omega) (-1) (by omega) (some ⟨ga, 0, none⟩) capa (ls ++ [flO']) (q + 1) (by rw [List.length_append, ← HQ.out]; rfl) (by omega) (by obtain ⟨A', c', e1, e2⟩ := hPa.shape; injection e1 with _ _ e3; rw [List.length_append, ← HQ.out] at e2; rw [e3]; exact e2) hPa.at)
      rw [HDe.out] at HPla
      have HB8a := Lib.hid hb8a
      clear hPa hb8a
      go_wp2_with fail
      refine HPla.out.mono ?_
      rintro e wPa ⟨Sa, bda, bra, bea, gra, gea, pa, Aia, cia, rfl, hW, hSi, hci, _⟩
      have HSia := Lib.hid hSi
      have HBb := Lib.hid (HBa.out.trans ((HB8a.out.trans (hW.bel.mono HB8a.out.size)).mono HBa.out.size))
      have HIb := Lib.hid (HIa.out.bel (HB8a.out.trans (hW.bel.mono HB8a.out.size)))
      have HBPa := Lib.hid (show Below wr.heap.size wr wPa from HB8a.out.trans (hW.bel.mono HB8a.out.size))
      clear hW hSi hci
      have HFwb := Lib.hid (few_any Av cv ls q HQ.out HIb.out.at)
      rw [HT2.out] at HFwb
      go_wp2_with fail
      refine HFwb.out.mono ?_
      rintro e wFb ⟨AFb, cFb, rfl, hc, hI, hb⟩
      simp only [← HQ.out] at hc hI ⊢
      obtain ⟨xsb, hx1, hx2⟩ := hI
      rw [← HQ.out] at hx1
      have HX1b := Lib.hid hx1
      have HX2b := Lib.hid hx2
      have HFBb := Lib.hid hb
      have HNb := Lib.hid (show ∀ j u, ([.int .i64 3, .int .i64 0, .slice none 0 0, .int .u64 0, .int .i64 0, .int .i64 0, .int .i64 4, .int .i64 0, .slice none 0 0, .int .u64 (keep : Int), .int .i64 tear, .int .i64 sectors] : List Value)[j]? = some u → (wFb.alloc (.cells #[.int .i64 3, .int .i64 0, .slice none 0 0, .int .u64 0, .int .i64 0, .int .i64 0, .int .i64 4, .int .i64 0, .slice none 0 0, .int .u64 (keep : Int), .int .i64 tear, .int .i64 sectors] 36)).cell? ((⟨wFb.heap.size, 0, none⟩ : Addr).add j) = some u from World.news_of_block (cs := #[.int .i64 3, .int .i64 0, .slice none 0 0, .int .u64 0, .int .i64 0, .int .i64 0, .int .i64 4, .int .i64 0, .slice none 0 0, .int .u64 (keep : Int), .int .i64 tear, .int .i64 sectors]) (t := 36) (fr := (0, 0)) (Bk.new wFb _ _))
      have HFlb := Lib.hid (show ([.int .i64 3, .int .i64 0, .slice none 0 0, .int .u64 0, .int .i64 0, .int .i64 0, .int .i64 4, .int .i64 0, .slice none 0 0, .int .u64 (keep : Int), .int .i64 tear, .int .i64 sectors] : List Value) = ([flO', crO keep tear sectors] : List OpM).flatMap (fun o => o.cl none 0) from rfl)
      clear hx1 hx2 hb
      go_wp2_with (at_builtin; (refine wpList_append_lies _ rfl _ _ _ rfl wPa.heap.size 36 j0 _ 6 64 Try.underlying22 hi0 hz0 hz1 hz2 rfl (by omega) _ q xsb rfl (HX1b.out.alloc _) ⟨wFb.heap.size, 0, none⟩ 2 2 [.int .i64 3, .int .i64 0, .slice none 0 0, .int .u64 0, .int .i64 0, .int .i64 0, .int .i64 4, .int .i64 0, .slice none 0 0, .int .u64 (keep : Int), .int .i64 tear, .int .i64 sectors] rfl rfl HNb.out (by rw [HFlb.out]; intro u hu; obtain ⟨o, _, ho⟩ := List.mem_flatMap.1 hu; exact cl_one o none 0 u ho) (by omega) (by unfold maxLen; omega) (by omega) (by have h1 := HFBb.out.size; simp; omega) _ rfl ?_); intro gb capb w8b hown hgrow hat hlt8; have HO8b := Lib.hid hown; have HG8b := Lib.hid hgrow; have HATb := Lib.hid hat; clear hown hgrow hat hlt8)
      have hPb := OpIn.pushes (os2 := [flO', crO keep tear sectors]) (m := 2) HQ.out.symm rfl (by rw [HX1b.out.1]) (fun i hi => by
        obtain ⟨A, c, a1, a2, a3⟩ := HX2b.out i hi
        exact ⟨A, c, a1, a2.bel ((Below.refl _ _).alloc (Nat.le_refl _) _), a3⟩) (by
          intro o ho
          simp only [List.mem_cons, List.not_mem_nil, or_false] at ho
          rcases ho with rfl | rfl
          · exact ⟨rfl, show (0 : Nat) < 18446744073709551616 by omega⟩
          · exact ⟨rfl, HKP.out⟩) (by rw [← HFlb.out]; exact HO8b.out) HG8b.out HATb.out
      have hb8b : Below wPa.heap.size wPa w8b := (HFBb.out.alloc HFBb.out.size _).grown HG8b.out (by have h1 := HFBb.out.size; simp; omega) (fun q hq => (HX1b.out.lt q hq).1)
      have HPlb := Lib.hid (play_ok T hT1 (by omega) (-1) (by omega) (some ⟨gb, 0, none⟩) capb (ls ++ [flO', crO keep tear sectors]) (q + 2) (by rw [List.length_append, ← HQ.out]; rfl) (by omega) (by obtain ⟨A', c', e1, e2⟩ := hPb.shape; injection e1 with _ _ e3; rw [List.length_append, ← HQ.out] at e2; rw [e3]; exact e2) hPb.at)
      rw [HDe.out] at HPlb
      have HB8b := Lib.hid hb8b
      clear hPb hb8b
      go_wp2_with fail
      refine HPlb.out.mono ?_
      rintro e wPb ⟨Sb, bdb, brb, beb, grb, geb, pb, Aib, cib, rfl, hW, hSi, hci, _⟩
      have HSib := Lib.hid hSi
      have HBc := Lib.hid (HBb.out.trans ((HB8b.out.trans (hW.bel.mono HB8b.out.size)).mono HBb.out.size))
      have HIc := Lib.hid (HIb.out.bel (HB8b.out.trans (hW.bel.mono HB8b.out.size)))
      have HBPb := Lib.hid (show Below wPa.heap.size wPa wPb from HB8b.out.trans (hW.bel.mono HB8b.out.size))
      clear hW hSi hci
      have HFwc := Lib.hid (few_any Av cv ls q HQ.out HIc.out.at)
      rw [HT2.out] at HFwc
      go_wp2_with fail
      refine HFwc.out.mono ?_
      rintro e wFc ⟨AFc, cFc, rfl, hc, hI, hb⟩
      simp only [← HQ.out] at hc hI ⊢
      obtain ⟨xsc, hx1, hx2⟩ := hI
      rw [← HQ.out] at hx1
      have HX1c := Lib.hid hx1
      have HX2c := Lib.hid hx2
      have HFBc := Lib.hid hb
      have HNc := Lib.hid (show ∀ j u, ([.int .i64 4, .int .i64 0, .slice none 0 0, .int .u64 18446744073709551615, .int .i64 0, .int .i64 0] : List Value)[j]? = some u → (wFc.alloc (.cells #[.int .i64 4, .int .i64 0, .slice none 0 0, .int .u64 18446744073709551615, .int .i64 0, .int .i64 0] 36)).cell? ((⟨wFc.heap.size, 0, none⟩ : Addr).add j) = some u from World.news_of_block (cs := #[.int .i64 4, .int .i64 0, .slice none 0 0, .int .u64 18446744073709551615, .int .i64 0, .int .i64 0]) (t := 36) (fr := (0, 0)) (Bk.new wFc _ _))
      have HFlc := Lib.hid (show ([.int .i64 4, .int .i64 0, .slice none 0 0, .int .u64 18446744073709551615, .int .i64 0, .int .i64 0] : List Value) = ([crO 18446744073709551615 0 0] : List OpM).flatMap (fun o => o.cl none 0) from rfl)
      clear hx1 hx2 hb
      go_wp2_with (at_builtin; (refine wpList_append_lies _ rfl _ _ _ rfl wPb.heap.size 36 j0 _ 6 64 Try.underlying22 hi0 hz0 hz1 hz2 rfl (by omega) _ q xsc rfl (HX1c.out.alloc _) ⟨wFc.heap.size, 0, none⟩ 1 1 [.int .i64 4, .int .i64 0, .slice none 0 0, .int .u64 18446744073709551615, .int .i64 0, .int .i64 0] rfl rfl HNc.out (by rw [HFlc.out]; intro u hu; obtain ⟨o, _, ho⟩ := List.mem_flatMap.1 hu; exact cl_one o none 0 u ho) (by omega) (by unfold maxLen; omega) (by omega) (by have h1 := HFBc.out.size; simp; omega) _ rfl ?_); intro gc capc w8c hown hgrow hat hlt8; have HO8c := Lib.hid hown; have HG8c := Lib.hid hgrow; have HATc := Lib.hid hat; clear hown hgrow hat hlt8)
      have hPc := OpIn.pushes (os2 := [crO 18446744073709551615 0 0]) (m := 1) HQ.out.symm rfl (by rw [HX1c.out.1]) (fun i hi => by
        obtain ⟨A, c, a1, a2, a3⟩ := HX2c.out i hi
        exact ⟨A, c, a1, a2.bel ((Below.refl _ _).alloc (Nat.le_refl _) _), a3⟩) (by
          intro o ho
          simp only [List.mem_cons, List.not_mem_nil, or_false] at ho
          subst ho
          exact ⟨rfl, show (18446744073709551615 : Nat) < 18446744073709551616 by omega⟩
          skip) (by rw [← HFlc.out]; exact HO8c.out) HG8c.out HATc.out
      have hb8c : Below wPb.heap.size wPb w8c := (HFBc.out.alloc HFBc.out.size _).grown HG8c.out (by have h1 := HFBc.out.size; simp; omega) (fun q hq => (HX1c.out.lt q hq).1)
      have HPlc := Lib.hid (play_ok T hT1 (by omega) (-1) (by omega) (some ⟨gc, 0, none⟩) capc (ls ++ [crO 18446744073709551615 0 0]) (q + 1) (by rw [List.length_append, ← HQ.out]; rfl) (by omega) (by obtain ⟨A', c', e1, e2⟩ := hPc.shape; injection e1 with _ _ e3; rw [List.length_append, ← HQ.out] at e2; rw [e3]; exact e2) hPc.at)
      rw [HDe.out] at HPlc
      have HB8c := Lib.hid hb8c
      clear hPc hb8c
      go_wp2_with fail
      refine HPlc.out.mono ?_
      rintro e wPc ⟨Sc, bdc, brc, bec, grc, gec, pc, Aic, cic, rfl, hW, hSi, hci, _⟩
      have HSic := Lib.hid hSi
      have HBd := Lib.hid (HBc.out.trans ((HB8c.out.trans (hW.bel.mono HB8c.out.size)).mono HBc.out.size))
      have HId := Lib.hid (HIc.out.bel (HB8c.out.trans (hW.bel.mono HB8c.out.size)))
      have HBPc := Lib.hid (show Below wPb.heap.size wPb wPc from HB8c.out.trans (hW.bel.mono HB8c.out.size))
      clear hW hSi hci
      have hia := img_a T D HOff.out ls q HQ.out
      have hib := img_b T D HOff.out ls q HQ.out keep tear sectors
      have hic := img_c T D HD0.out ls q HQ.out
      have hlen : (plS T D ls q).1.flush.img.length = T * 256 := (plS_ok HD0.out q).flush.len
      obtain ⟨N, hN⟩ : ∃ N, N = T * 256 := ⟨_, rfl⟩
      have hNT : (256 : Int) * (T : Int) = (N : Int) := by omega
      have hN6 : N ≤ 600000 := by omega
      have HA1 := Lib.hid ((HSia.out.bel HBPb.out).bel HBPc.out)
      have HB1 := Lib.hid (HSib.out.bel HBPc.out)
      have HC1 := HSic
      simp only [hia] at HA1
      simp only [hib] at HB1
      simp only [hic] at HC1
      generalize (plS T D ls q).1.flush.img = img at *
      simp only [← hN]
      have HNL := Lib.hid (show N = img.length by rw [hN, hlen])
      clear hia hib hic hlen hN
      go_wp2_with fail
      refine awake_any.mono ?_
      rintro e w9 ⟨rfl, hb9⟩
      have HB9 := Lib.hid (HBd.out.trans (hb9.mono HBd.out.size))
      have HA9 := HA1.out.bel hb9
      have HB9' := HB1.out.bel hb9
      have HC9 := HC1.out.bel hb9
      have HS1 := Lib.hid (same_u8 Aia Aib N N cia cib img img HNL.out HNL.out w9 HA9 HB9' (by omega) (by omega))
      have HS2 := Lib.hid (fun (w' : World) (hb : Below w9.heap.size w9 w') => same_u8 Aia Aic N N cia cic img img HNL.out HNL.out w' (HA9.bel hb) (HC9.bel hb) (by omega) (by omega))
      rw [show decide (img = img) = true by simp] at HS1 HS2
      clear hb9 HA9 HB9' HC9
      go_wp2_with fail
      refine HS1.out.mono ?_
      rintro e w10 ⟨rfl, hb10⟩
      have HB10 := Lib.hid (HB9.out.trans (hb10.mono HB9.out.size))
      have HS3 := Lib.hid (HS2.out w10 hb10)
      clear hb10
      go_wp2_with fail
      refine HS3.out.mono ?_
      rintro e w11 ⟨rfl, hb11⟩
      have HB11 := Lib.hid (HB10.out.trans (hb11.mono HB10.out.size))
      clear hb11
      go_wp2_with fail
      go_ret
      exact ⟨rfl, HB11.out⟩
theorem flushed_any (T : Int) (A : Option Addr) (n c : Nat) (ops : List OpM) (hn : n = ops.length) (hO : OpsAt w A ops) (keep : Nat) (hkeep : keep < 18446744073709551616) (tear sectors : Int) :
    Calls Try.prog 5 #[.int .i64 T, .slice A n c, .int .u64 (keep : Int), .int .i64 tear, .int .i64 sectors] w fun e w' => e = .returned (.bool true) ∧ Below w.heap.size w w' := by
  by_cases h : 1 ≤ T ∧ T ≤ 16
  · have := flushed_ok (w := w) T.toNat (by omega) (by omega) A n c ops hn hO keep hkeep tear sectors
    rw [show ((T.toNat : Nat) : Int) = T by omega] at this
    exact this
  · exact flushed_no T _ _ _ _ h
end
end Go.Proofs.Ytbepdmohaedjkaa
