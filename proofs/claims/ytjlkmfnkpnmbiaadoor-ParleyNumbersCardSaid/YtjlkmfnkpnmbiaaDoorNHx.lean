/- The layer digest's hexadecimal texts, written and read back. Conditions: the bytes lie in memory. -/
import Derived.Test.YtjlkmfnkpnmbiaaDoorUnkey
import Derived.Test.YtjlkmfnkpnmbiaaDoorHex
import Derived.Deep.RegionLaw
namespace Go.Proofs.YtjlkmfnkpnmbiaaDoor
open Go.RowKit

/-- An append of what is read in memory, as a step of a region that draws its order. -/
theorem step_append_seg {P : Program} (w : World) {ops : Array Oper} {o : Oper} {a : Act} {K : Act → World → Prop} {Q : Exit → Act → World → Prop} {E : Prop} (hgd : o.guard = none) (s x : Operand) (t : TypeId)
    (ho : o.op = .call { callee := .builtin .append, args := #[s, x], argTypes := #[t, t] })
    (base : Nat) (e : TypeId) (i : TypeInfo) (z : Value) (bytes : Nat) (ht : P.underlying t = some (.slice e)) (hi : P.info? e = some i) (hz : i.zero = some z)
    (hsize : i.size = 1) (hby : i.bytes = bytes) (hzs : z.cells.size = 1)
    (v : Value) (n : Nat) (xs : List Value) (hs : a.eval s = v) (hown : w.ownsRow base e 1 v n xs) (A : Option Addr) (m c : Nat) (news : List Value) (hx : a.eval x = .slice A m c) (hm : m = news.length) (hr : Seg w A news)
    (h1 : ∀ u ∈ news, u.oneCell' = true) (h63 : n + m ≤ maxLen) (hbytes : (n + m) * bytes ≤ 140737488355328) (hbase : base ≤ w.heap.size)
    (h : ∀ v' w', w'.ownsRow base e 1 v' (n + m) (xs ++ news) → Below base w w' → K (a.put o.dst v') w') :
    if Region.wanted o (yielded ops a.tmps) = true then Oper.wp P o a w K Q else E := by
  have hw : Region.wanted o (yielded ops a.tmps) = true := by simp [Region.wanted, hgd]
  rw [if_pos hw]
  obtain ⟨v', w', hrun, h2, h3⟩ := run_append_seg (P := P) w base t o.type e i z bytes ht hi hz hsize hby hzs v n xs hown A m c news hm hr h1 h63 hbytes hbase
  unfold Oper.wp execOp
  simp only [ho, resolve, invoke, builtin, Sem.run_bind, Sem.run_pure, Result.andThen_ok, List.map_toArray, List.map_cons, List.map_nil, hs, hx, hrun]
  exact h v' w' h2 h3

theorem u8s_append (l m : List Nat) : u8s (l ++ m) = u8s l ++ u8s m := by simp [u8s]
theorem getD_lt (key : List Nat) (hk : ∀ x ∈ key, x < 256) (i : Nat) : key.getD i 0 < 256 := by
  by_cases h : i < key.length
  · rw [show key.getD i 0 = key[i] by simp [h]]; exact hk _ (List.getElem_mem h)
  · rw [show key.getD i 0 = 0 by simp [List.getD, List.getElem?_eq_none (by omega : key.length ≤ i)]]; omega

/-- Bytes as a text. -/
def txt (l : List Nat) : ByteArray := ⟨(l.map UInt8.ofNat).toArray⟩
theorem run_txt (w : World) (A : Option Addr) (n c : Nat) (l : List Nat) (hn : n = l.length) (hA : Seg w A (u8s l)) (hl : ∀ x ∈ l, x < 256) : (convert 44 9 (.slice A n c)).run Tryd.prog w = .ok (.string (txt l)) w := by
  subst hn
  by_cases he : l = []
  · subst he
    rcases A with _ | ad
    · exact run_convert_bytes_nil (P := Tryd.prog) (w := w) 44 5 Tryd.underlying44 Tryd.underlying5 0 c 9 Tryd.underlying9
    · exact run_convert_bytes_back (P := Tryd.prog) w 44 9 5 ad c [] Tryd.underlying44 Tryd.underlying5 Tryd.underlying9 (fun j hj => absurd hj (by simp))
  · obtain ⟨b, off, rfl, hb, hc⟩ := hA (by intro e; apply he; simpa [u8s] using e)
    have := run_convert_bytes_back (P := Tryd.prog) w 44 9 5 ⟨b, off, none⟩ c (l.map UInt8.ofNat) Tryd.underlying44 Tryd.underlying5 Tryd.underlying9 (fun j hj => by
      have hj' : j < l.length := by simpa using hj
      have hlt := hl _ (List.getElem_mem hj')
      rw [show ((⟨b, off, none⟩ : Addr).add j) = ⟨b, off + j, none⟩ by unfold Addr.add; split <;> simp_all]
      rw [hc j (by rw [u8s_length]; exact hj'), List.getElem?_eq_getElem (by rw [u8s_length]; exact hj'), u8s_get _ _ hj']
      simp [Nat.mod_eq_of_lt hlt])
    rw [List.length_map] at this
    exact this

def hexN (l : List Nat) : List Nat := l.flatMap fun x => [digC (x / 16), digC (x % 16)]
theorem hexN_length (l : List Nat) : (hexN l).length = 2 * l.length := by
  induction l with
  | nil => rfl
  | cons x l ih => simp only [hexN, List.flatMap_cons, List.length_append, List.length_cons, List.length_nil] at ih ⊢; omega
theorem hexN_append (l m : List Nat) : hexN (l ++ m) = hexN l ++ hexN m := by simp [hexN]
theorem hexN_lt (l : List Nat) (hl : ∀ x ∈ l, x < 256) : ∀ x ∈ hexN l, x < 256 := by
  intro x hx
  simp only [hexN, List.mem_flatMap, List.mem_cons, List.not_mem_nil, or_false] at hx
  obtain ⟨y, hy, rfl | rfl⟩ := hx
  · have := hl y hy; exact digC_lt _ (by omega)
  · exact digC_lt _ (by omega)
theorem seg_two (w : World) (a b : Value) (e : TypeId) : Seg (w.alloc (.cells #[a, b] e)) (some ⟨w.heap.size, 0, none⟩) [a, b] :=
  Seg.of_block (heap_alloc_new w _) (by
    intro i hi
    match i, hi with
    | 0, _ => rfl
    | 1, _ => rfl)
theorem low8 (x : Nat) (hx : x < 256) : bits .and .u8 (x : Int) 15 = ((x % 16 : Nat) : Int) := by
  revert x
  decide +kernel

set_option maxRecDepth 100000 in
theorem bhex_any (A : Option Addr) (n c : Nat) (l : List Nat) (hn : n = l.length) (hx : n ≤ 1000000000) (w : World) (hA : Seg w A (u8s l)) (hl : ∀ x ∈ l, x < 256) :
    Calls Tryd.prog 39 #[.slice A n c] w fun e w' => e = .returned (.string (txt (hexN l))) ∧ Below w.heap.size w w' := by
  obtain ⟨i0, hi0, hz0, hz1, hz2⟩ := info_parts info5
  have hmk : ∀ (w : World), (Instr.makeSlice 44 (.int .i64 0) (.int .i64 (2 * (n : Int)))).run Tryd.prog w = .ok (.slice (some ⟨w.heap.size, 0, none⟩) 0 (2 * n)) (w.alloc (.cells (madeCells #[.int .u8 0] (2 * n)) 5)) := fun w => by
    have := run_make (P := Tryd.prog) w 44 5 i0 (.int .u8 0) Tryd.underlying44 hi0 hz0 .i64 .i64 0 (2 * n) (by omega) (by omega) (by rw [hz2]; omega) (by omega)
    rw [hz1, show (2 * (n : Int)).toNat = 2 * n by omega, Nat.mul_one] at this
    exact this
  have hcs : (madeCells #[Value.int .u8 0] (2 * n)).size = 2 * n := by
    rw [← Array.length_toList, show (madeCells #[Value.int .u8 0] (2 * n)).toList = List.replicate (2 * n) (Value.int .u8 0) from toList_madeCells_one _ _]; simp
  have HM := Lib.hid (World.ownsRow_made (w := w) (base := w.heap.size) (e := 5) (size := 1) (madeCells #[.int .u8 0] (2 * n)) (2 * n) (Nat.le_refl _) (by simp only [maxLen]; omega) (by rw [hcs]; omega))
  have hAA : Seg (w.alloc (.cells (madeCells #[.int .u8 0] (2 * n)) 5)) A (u8s l) := hA.bel ((Below.refl _ _).alloc (Nat.le_refl _) _)
  have HA := Lib.hid hA
  have HL := Lib.hid hl
  have HN := Lib.hid hn
  have HB := Lib.hid ((Below.refl w.heap.size w).alloc (Nat.le_refl _) (.cells (madeCells #[.int .u8 0] (2 * n)) 5))
  clear hA hl hn hcs hAA
  go_enter Tryd.func39, Tryd.ntmps39
  go_wp2
  go_loopw [3, 12] (fun v i wr => ∃ k : Nat, k ≤ n ∧ i = .int .i64 k ∧ wr.ownsRow w.heap.size 5 1 v (2 * k) (u8s (hexN (l.take k))) ∧ Below w.heap.size w wr) (fun _ i _ => n - (intOf i).toNat)
  case atStart => exact ⟨0, by omega, rfl, HM.out, HB.out⟩
  case round =>
    obtain ⟨k, hk, rfl, hown, hb⟩ := hrel
    have HO := Lib.hid hown
    have HW := Lib.hid hb
    have hsz := hb.size
    obtain ⟨A1, c1, rfl, hc1, _⟩ := own_shape hown
    clear hown hb HM HB
    by_cases hlt : k < n
    · have hAr := HA.out.bel HW.out
      obtain ⟨b, off, rfl, hbl, _, hcell⟩ := hAr.pick (k := k) (by rw [u8s_length, ← HN.out]; exact hlt)
      rw [u8s_get l k (by rw [← HN.out]; exact hlt)] at hcell
      have hX := HL.out _ (List.getElem_mem (by rw [← HN.out]; exact hlt : k < l.length))
      have HT := Lib.hid (show l.take (k + 1) = l.take k ++ [l[k]'(by rw [← HN.out]; exact hlt)] by rw [List.take_succ_eq_append_getElem (by rw [← HN.out]; exact hlt)])
      generalize l[k]'(by rw [← HN.out]; exact hlt) = X at *
      have e1 := low8 X hX
      have hD : X / 16 < 16 := by omega
      have hE : X % 16 < 16 := by omega
      clear hAr
      go_wp2_with fail
      have lD := letter _ hD
      have lE := letter _ hE
      have n1 : (0 : Int) ≤ (X : Int) / 16 := by omega
      have n2 : (X : Int) / 16 < 16 := by omega
      have n3 : ((X : Int) / 16).toNat = X / 16 := by omega
      have n5 : (0 : Int) ≤ (X : Int) % 16 := by omega
      have n6 : (X : Int) % 16 < 16 := by omega
      have n4 : ((X : Int) % 16).toNat = X % 16 := by omega
      go_region_law (refine step_append_seg _ rfl _ _ _ rfl w.heap.size 5 i0 _ 1 Tryd.underlying44 hi0 hz0 hz1 hz2 rfl _ (2 * k) _ rfl (own_alloc (show wr.drew.ownsRow _ _ _ _ _ _ from HO.out) _) (some ⟨wr.heap.size, 0, none⟩) 2 2 [.int .u8 ((digC (X / 16) : Nat) : Int), .int .u8 ((digC (X % 16) : Nat) : Int)] rfl rfl (seg_two _ _ _ _) (by simp [Value.oneCell']) (by simp only [maxLen]; omega) (by omega) (by show _ ≤ (Array.push _ _).size; rw [Array.size_push]; omega) ?_; intro v' w' hown' hb')
      all_goals (
        obtain ⟨A2, c2, rfl, hc2, _⟩ := own_shape hown'
        have HO' := Lib.hid hown'
        have HB' := Lib.hid hb'
        clear hown' hb'
        go_wp2
        go_roundw
        case rel =>
          refine ⟨k + 1, by omega, by go_num, ?_, (HW.out.alloc hsz _).drew.trans HB'.out⟩
          have e : u8s (hexN (l.take k)) ++ [Value.int .u8 ((digC (X / 16) : Nat) : Int), Value.int .u8 ((digC (X % 16) : Nat) : Int)] = u8s (hexN (l.take (k + 1))) := by
            rw [HT.out, hexN_append, u8s_append]
            simp [u8s, hexN]
          rw [← e]
          exact HO'.out
        case measure => simp [intOf]; omega)
    · obtain rfl : k = n := by omega
      have hl : l.take k = l := by rw [HN.out]; simp
      rw [hl] at HO
      obtain ⟨A2, c2, h2, hc2, s2⟩ := own_shape HO.out
      obtain ⟨rfl, rfl⟩ : A2 = A1 ∧ c2 = c1 := by injection h2 with h2 h3 h4; exact ⟨h2.symm, h4.symm⟩
      have hcv := run_txt wr A2 (2 * k) c2 (hexN l) (by rw [hexN_length, ← HN.out]) s2 (hexN_lt l HL.out)
      clear s2 hl h2
      go_wp2
      go_ret
      exact ⟨rfl, HW.out⟩
def hvB (c : Nat) : Bool := decide (48 ≤ c ∧ c ≤ 57) || decide (97 ≤ c ∧ c ≤ 102)
def hvN (c : Nat) : Nat := if 48 ≤ c ∧ c ≤ 57 then c - 48 else if 97 ≤ c ∧ c ≤ 102 then c - 87 else 0
theorem hvN_lt (c : Nat) : hvN c < 16 := by unfold hvN; split <;> (try split) <;> omega

set_option maxRecDepth 100000 in
theorem hexvalue_any (c : Nat) (hc : c < 256) (w : World) :
    Calls Tryd.prog 51 #[.int .u8 (c : Int)] w fun e w' => e = .returned (.tuple #[.int .u8 ((hvN c : Nat) : Int), .bool (hvB c)]) ∧ w = w' := by
  by_cases h1 : 48 ≤ c ∧ c ≤ 57
  · have e1 : hvN c = c - 48 := by unfold hvN; rw [if_pos h1]
    have e2 : hvB c = true := by unfold hvB; simp [h1]
    have e3 : ((c - 48 : Nat) : Int) = (c : Int) - 48 := by omega
    rw [e1, e2, e3]
    have i1 : (48 : Int) ≤ c := by omega
    have i2 : (c : Int) ≤ 57 := by omega
    clear e1 e2 e3 h1
    go_enter Tryd.func51, Tryd.ntmps51
    go_wp2
    go_ret2
    exact ⟨rfl, rfl⟩
  · by_cases h2 : 97 ≤ c ∧ c ≤ 102
    · have e1 : hvN c = c - 87 := by unfold hvN; rw [if_neg h1, if_pos h2]
      have e2 : hvB c = true := by unfold hvB; simp [h2]
      have e3 : ((c - 87 : Nat) : Int) = (c : Int) - 97 + 10 := by omega
      rw [e1, e2, e3]
      have i1 : (48 : Int) ≤ c := by omega
      have i2 : ¬ (c : Int) ≤ 57 := by omega
      have i3 : (97 : Int) ≤ c := by omega
      have i4 : (c : Int) ≤ 102 := by omega
      clear e1 e2 e3 h1 h2
      go_enter Tryd.func51, Tryd.ntmps51
      go_wp2
      go_ret2
      exact ⟨rfl, rfl⟩
    · have e1 : hvN c = 0 := by unfold hvN; rw [if_neg h1, if_neg h2]
      have e2 : hvB c = false := by unfold hvB; simp [h1, h2]
      rw [e1, e2]
      have i1 : decide ((48 : Int) ≤ c ∧ (c : Int) ≤ 57) = false := by rw [decide_eq_false_iff_not]; omega
      clear e1 e2
      by_cases h3 : 48 ≤ c
      · have j1 : (48 : Int) ≤ c := by omega
        have j2 : ¬ (c : Int) ≤ 57 := by omega
        by_cases h4 : 97 ≤ c
        · have j3 : (97 : Int) ≤ c := by omega
          have j4 : ¬ (c : Int) ≤ 102 := by omega
          clear i1 h1 h2
          go_enter Tryd.func51, Tryd.ntmps51
          go_wp2
          go_ret2
          exact ⟨rfl, rfl⟩
        · have j3 : ¬ (97 : Int) ≤ c := by omega
          clear i1 h1 h2
          go_enter Tryd.func51, Tryd.ntmps51
          go_wp2
          go_ret2
          exact ⟨rfl, rfl⟩
      · have j1 : ¬ (48 : Int) ≤ c := by omega
        have j3 : ¬ (97 : Int) ≤ c := by omega
        clear i1 h1 h2
        go_enter Tryd.func51, Tryd.ntmps51
        go_wp2
        go_ret2
        exact ⟨rfl, rfl⟩

/-- What a text of digits stands for. -/
def unhexN : List Nat → Option (List Nat)
  | [] => some []
  | [_] => none
  | a :: b :: r => if hvB a = true ∧ hvB b = true then (unhexN r).map ((hvN a * 16 + hvN b) :: ·) else none
theorem unhexN_odd : ∀ l : List Nat, l.length % 2 = 1 → unhexN l = none
  | [], h => by simp at h
  | [_], _ => rfl
  | a :: b :: r, h => by
    have ih := unhexN_odd r (by simp only [List.length_cons] at h; omega)
    simp only [unhexN, ih, Option.map_none, ite_self]
theorem digC_hv (d : Nat) (h : d < 16) : hvB (digC d) = true ∧ hvN (digC d) = d := by
  revert d; decide +kernel
theorem hv_digC (c : Nat) (hc : c < 256) (h : hvB c = true) : digC (hvN c) = c := by
  revert c; decide +kernel
theorem unhex_hex : ∀ l : List Nat, (∀ x ∈ l, x < 256) → unhexN (hexN l) = some l
  | [], _ => rfl
  | x :: l, h => by
    have hx := h x (by simp)
    have ih := unhex_hex l (fun y hy => h y (by simp [hy]))
    have e : hexN (x :: l) = digC (x / 16) :: digC (x % 16) :: hexN l := by simp [hexN]
    have d1 := digC_hv (x / 16) (by omega)
    have d2 := digC_hv (x % 16) (by omega)
    rw [e, unhexN, if_pos ⟨d1.1, d2.1⟩, ih, d1.2, d2.2]
    simp only [Option.map_some]
    congr 2
    omega
theorem hex_unhex : ∀ (l t : List Nat), (∀ x ∈ l, x < 256) → unhexN l = some t → hexN t = l ∧ (∀ x ∈ t, x < 256) ∧ l.length = 2 * t.length
  | [], t, _, h => by simp [unhexN] at h; subst h; exact ⟨rfl, by simp, rfl⟩
  | [_], t, _, h => by simp [unhexN] at h
  | a :: b :: r, t, hl, h => by
    rw [unhexN] at h
    split at h
    · rename_i hv
      obtain ⟨t', ht', rfl⟩ := Option.map_eq_some_iff.1 h
      obtain ⟨h1, h2, h3⟩ := hex_unhex r t' (fun y hy => hl y (by simp [hy])) ht'
      have n1 := hvN_lt a
      have n2 := hvN_lt b
      refine ⟨?_, ?_, ?_⟩
      · have e : hexN ((hvN a * 16 + hvN b) :: t') = digC ((hvN a * 16 + hvN b) / 16) :: digC ((hvN a * 16 + hvN b) % 16) :: hexN t' := by simp [hexN]
        rw [e, h1, show (hvN a * 16 + hvN b) / 16 = hvN a by omega, show (hvN a * 16 + hvN b) % 16 = hvN b by omega, hv_digC a (hl a (by simp)) hv.1, hv_digC b (hl b (by simp)) hv.2]
      · intro x hx
        simp only [List.mem_cons] at hx
        rcases hx with rfl | hx
        · omega
        · exact h2 x hx
      · simp only [List.length_cons, h3]; omega
    · cases h
def hexedN (l : List Nat) : Bool := l.all hvB && decide (l.length % 2 = 0)
theorem unhex_none : ∀ l : List Nat, unhexN l = none → hexedN l = false
  | [], h => by simp [unhexN] at h
  | [_], _ => by simp [hexedN]
  | a :: b :: r, h => by
    rw [unhexN] at h
    split at h
    · have ih := unhex_none r (Option.map_eq_none_iff.1 h)
      simp only [hexedN, List.all_cons, List.length_cons] at ih ⊢
      rename_i hv
      have e : decide ((r.length + 1 + 1) % 2 = 0) = decide (r.length % 2 = 0) := by congr 1; apply propext; omega
      rw [hv.1, hv.2, Bool.true_and, Bool.true_and, e]
      exact ih
    · rename_i hv
      simp only [hexedN, List.all_cons]
      cases h1 : hvB a
      · simp
      · cases h2 : hvB b
        · simp
        · exact absurd ⟨h1, h2⟩ hv
/-- Reading a byte of a text. -/
theorem run_index_txt (l : List Nat) (hl : ∀ x ∈ l, x < 256) (k : Nat) (hk : k < l.length) (w : World) : (Instr.index 9 (.string (txt l)) (.int .i64 (k : Int))).run Tryd.prog w = .ok (.int .u8 ((l.getD k 0 : Nat) : Int)) w := by
  have ha : ∀ w, (asIntOf (Value.int .i64 (k : Int))).run Tryd.prog w = .ok (.i64, (k : Int)) w := fun _ => rfl
  have hs : (txt l).size = l.length := by simp [txt, ByteArray.size]
  have hb : ((txt l)[k]'(by rw [hs]; exact hk)).toNat = l.getD k 0 := by
    have := hl _ (List.getElem_mem hk)
    show ((txt l).data[k]'(by rw [← ByteArray.size]; rw [hs]; exact hk)).toNat = _
    simp [txt, hk, Nat.mod_eq_of_lt this]
  simp [Instr.index, run_underlying Tryd.underlying9, ha, hs, hk, hb]

theorem txt_len (l : List Nat) : (txt l).size = l.length := by simp [txt, ByteArray.size]
theorem unhex_step (l : List Nat) (k : Nat) (h : 2 * k + 1 < l.length) : unhexN (l.drop (2 * k)) = if hvB (l.getD (2 * k) 0) = true ∧ hvB (l.getD (2 * k + 1) 0) = true then (unhexN (l.drop (2 * (k + 1)))).map ((hvN (l.getD (2 * k) 0) * 16 + hvN (l.getD (2 * k + 1) 0)) :: ·) else none := by
  have e : l.drop (2 * k) = l.getD (2 * k) 0 :: l.getD (2 * k + 1) 0 :: l.drop (2 * (k + 1)) := by
    rw [List.drop_eq_getElem_cons (by omega : 2 * k < l.length), List.drop_eq_getElem_cons (by omega : 2 * k + 1 < l.length)]
    simp [List.getD, (by omega : 2 * k < l.length), h, show 2 * k + 1 + 1 = 2 * (k + 1) by omega]
  rw [e, unhexN]

set_option maxRecDepth 100000 in
set_option maxHeartbeats 1000000 in
theorem unhex_walk (l : List Nat) (hl : ∀ x ∈ l, x < 256) (hx : l.length ≤ 140737488355327) (w : World) :
    Calls Tryd.prog 41 #[.string (txt l)] w fun e w' =>
      (∃ t A' c', unhexN l = some t ∧ e = .returned (.tuple #[.slice A' t.length c', .bool true]) ∧ t.length ≤ c' ∧ Seg w' A' (u8s t) ∧ Below w.heap.size w w') ∨
      (unhexN l = none ∧ e = .returned (.tuple #[.slice none 0 0, .bool false]) ∧ Below w.heap.size w w') := by
  obtain ⟨i0, hi0, hz0, hz1, hz2⟩ := info_parts info5
  have hs := txt_len l
  have hix := run_index_txt l hl
  have HU := Lib.hid (unhexN_odd l)
  have HStep := Lib.hid (unhex_step l)
  have HU0 := Lib.hid (show unhexN (l.drop 0) = unhexN l by simp)
  have HL := Lib.hid hl
  generalize txt l = s at *
  by_cases hodd : l.length % 2 = 1
  · have hU := Lib.hid (HU.out hodd)
    have ht : ((l.length : Int) % 2 != 0) = true := by rw [bne_iff_ne]; omega
    clear hix hl
    go_enter Tryd.func41, Tryd.ntmps41
    go_wp2
    go_ret2
    exact .inr ⟨hU.out, rfl, Below.refl _ _⟩
  · obtain ⟨q, hq⟩ : ∃ q, q = l.length / 2 := ⟨_, rfl⟩
    have hq2 : l.length = 2 * q := by omega
    have ht : ((l.length : Int) % 2 != 0) = false := by rw [bne_eq_false_iff_eq]; omega
    have hmk : ∀ (w : World), (Instr.makeSlice 44 (.int .i64 0) (.int .i64 ((l.length : Int) / 2))).run Tryd.prog w = .ok (.slice (some ⟨w.heap.size, 0, none⟩) 0 q) (w.alloc (.cells (madeCells #[.int .u8 0] q) 5)) := fun w => by
      have e : (l.length : Int) / 2 = ((q : Nat) : Int) := by omega
      rw [e]
      have := run_make (P := Tryd.prog) w 44 5 i0 (.int .u8 0) Tryd.underlying44 hi0 hz0 .i64 .i64 0 q (by omega) (by omega) (by rw [hz2]; omega) (by omega)
      rw [hz1, show ((q : Nat) : Int).toNat = q by omega, Nat.mul_one] at this
      exact this
    have hcs : (madeCells #[Value.int .u8 0] q).size = q := by
      rw [← Array.length_toList, show (madeCells #[Value.int .u8 0] q).toList = List.replicate q (Value.int .u8 0) from toList_madeCells_one _ _]; simp
    have HM := Lib.hid (World.ownsRow_made (w := w) (base := w.heap.size) (e := 5) (size := 1) (madeCells #[.int .u8 0] q) q (Nat.le_refl _) (by simp only [maxLen]; omega) (by rw [hcs]; omega))
    have HB := Lib.hid ((Below.refl w.heap.size w).alloc (Nat.le_refl _) (.cells (madeCells #[.int .u8 0] q) 5))
    have HI := Lib.hid hix
    have HQ := Lib.hid hq2
    clear hq hodd hcs hix hq2 hl
    go_enter Tryd.func41, Tryd.ntmps41
    go_wp2
    go_loopw [4, 5] (fun v i wr => ∃ (k : Nat) (D : List Nat), k ≤ q ∧ D.length = k ∧ i = .int .i64 (2 * (k : Int)) ∧ wr.ownsRow w.heap.size 5 1 v k (u8s D) ∧ unhexN l = (unhexN (l.drop (2 * k))).map (D ++ ·) ∧ Below w.heap.size w wr) (fun _ i _ => 2 * q - (intOf i).toNat)
    case atStart => exact ⟨0, [], by omega, rfl, rfl, HM.out, by rw [HU0.out]; cases unhexN l <;> rfl, HB.out⟩
    case round =>
      obtain ⟨k, D, hk, hDk, rfl, hown, hU, hb⟩ := hrel
      have HO := Lib.hid hown
      have HW := Lib.hid hb
      have HUk := Lib.hid hU
      have HDk := Lib.hid hDk
      have hsz := hb.size
      obtain ⟨A1, c1, rfl, hc1, _⟩ := own_shape hown
      clear hown hb HM HB hU hDk
      by_cases hlt : k < q
      · have hst := HStep.out k (by rw [HQ.out]; omega)
        have x1 := HI.out (2 * k) (by rw [HQ.out]; omega)
        have x2 := HI.out (2 * k + 1) (by rw [HQ.out]; omega)
        rw [show ((2 * k : Nat) : Int) = 2 * (k : Int) by omega] at x1
        rw [show ((2 * k + 1 : Nat) : Int) = 2 * (k : Int) + 1 by omega] at x2
        have b1 := getD_lt l HL.out (2 * k)
        have b2 := getD_lt l HL.out (2 * k + 1)
        generalize l.getD (2 * k) 0 = a at *
        generalize l.getD (2 * k + 1) 0 = b at *
        have H1 := Lib.hid (fun w => hexvalue_any a b1 w)
        have H2 := Lib.hid (fun w => hexvalue_any b b2 w)
        have n1 := hvN_lt a
        have n2 := hvN_lt b
        have ll : (2 * (k : Int)) < (l.length : Int) := by rw [HQ.out]; omega
        have x0 : IntKind.i64.wrap (2 * (k : Int) + 1) = 2 * (k : Int) + 1 := IntWalk.i64_in _ (by omega)
        have HSt := Lib.hid hst
        clear hst
        by_cases hv : hvB a = true ∧ hvB b = true
        · have hv1 := hv.1
          have hv2 := hv.2
          rw [if_pos hv] at HSt
          have e1 : bits .or .u8 (((hvN a : Nat) : Int) * 16) ((hvN b : Nat) : Int) = ((hvN a * 16 + hvN b : Nat) : Int) := by
            rw [show ((hvN a : Nat) : Int) * 16 = ((hvN a * 16 : Nat) : Int) by simp, u8_or_nat _ _ (by omega) (by omega)]
            congr 1
            have := Nat.two_pow_add_eq_or_of_lt (i := 4) (b := hvN b) (by omega) (hvN a)
            rw [show (2 : Nat) ^ 4 * hvN a = hvN a * 16 by omega] at this
            exact this.symm
          generalize hvN a = ha at *
          generalize hvN b = hb' at *
          clear hv
          go_wp2_with (first
            | (go_at_call 51; (with_reducible refine (H1.out _).mono ?_); rintro e w' ⟨rfl, rfl⟩)
            | (go_at_call 51; (with_reducible refine (H2.out _).mono ?_); rintro e w' ⟨rfl, rfl⟩)
            | (at_builtin; refine wpList_append_seg _ rfl _ _ _ rfl w.heap.size 5 i0 _ 1 Tryd.underlying44 hi0 hz0 hz1 hz2 rfl _ k _ rfl (own_alloc HO.out _) (some ⟨wr.heap.size, 0, none⟩) 1 1 [_] rfl rfl (seg_new _ _ _) (by simp [Value.oneCell']) (by simp only [maxLen]; omega) (by omega) (by simp only [World.size_alloc]; omega) ?_; intro v' w' hown' hb2; obtain ⟨A2, c2, rfl, hc2, _⟩ := own_shape hown'; have HO2 := Lib.hid hown'; have HB2 := Lib.hid hb2; clear hown' hb2))
          go_roundw
          case rel =>
            refine ⟨k + 1, D ++ [ha * 16 + hb'], by omega, by simp [HDk.out], congrArg (Value.int .i64) (by omega), ?_, ?_, (HW.out.alloc hsz _).trans HB2.out⟩
            · rw [u8s_append]
              have := HO2.out
              simpa [u8s] using this
            · rw [HUk.out, HSt.out]
              cases unhexN (l.drop (2 * (k + 1))) <;> simp
          case measure => simp [intOf]; omega
        · rw [if_neg hv] at HSt
          have HN := Lib.hid (show unhexN l = none by rw [HUk.out, HSt.out]; rfl)
          by_cases hv1 : hvB a = true
          · have hv2 : hvB b = false := by
              cases h : hvB b
              · rfl
              · exact absurd ⟨hv1, h⟩ hv
            clear hv HSt
            go_wp2_with (first
            | (go_at_call 51; (with_reducible refine (H1.out _).mono ?_); rintro e w' ⟨rfl, rfl⟩)
            | (go_at_call 51; (with_reducible refine (H2.out _).mono ?_); rintro e w' ⟨rfl, rfl⟩))
            go_ret2
            exact .inr ⟨HN.out, rfl, HW.out⟩
          · have hv1' : hvB a = false := by simpa using hv1
            clear hv HSt hv1
            go_wp2_with (first
            | (go_at_call 51; (with_reducible refine (H1.out _).mono ?_); rintro e w' ⟨rfl, rfl⟩)
            | (go_at_call 51; (with_reducible refine (H2.out _).mono ?_); rintro e w' ⟨rfl, rfl⟩))
            go_ret2
            exact .inr ⟨HN.out, rfl, HW.out⟩
      · obtain rfl : k = q := by omega
        have ll : ¬ (2 * (k : Int)) < (l.length : Int) := by rw [HQ.out]; omega
        have HN := Lib.hid (show unhexN l = some D by rw [HUk.out, show l.drop (2 * k) = [] by rw [← HQ.out]; simp]; simp [unhexN])
        obtain ⟨A2, c2, h2, hc2, s2⟩ := own_shape HO.out
        obtain ⟨rfl, rfl⟩ : A2 = A1 ∧ c2 = c1 := by injection h2 with h2 h3 h4; exact ⟨h2.symm, h4.symm⟩
        have S2 := Lib.hid s2
        clear s2 h2
        go_wp2
        go_ret2
        exact .inl ⟨D, HN.out, A2, c2, by rw [HDk.out]; rfl, by rw [HDk.out]; exact hc2, S2.out, HW.out⟩
end Go.Proofs.YtjlkmfnkpnmbiaaDoor
