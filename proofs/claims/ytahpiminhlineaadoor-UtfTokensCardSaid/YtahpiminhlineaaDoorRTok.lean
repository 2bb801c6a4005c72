/- The reference's small forms of a text and its words. Condition: the text is valid and short. -/
import Derived.Test.YtahpiminhlineaaDoorREnc
namespace Go.Proofs.YtahpiminhlineaaDoor
open Go.RowKit Go.Shelf Go.PlainAid Go.Lib

/-- The small forms of the first code points. -/
def accS (D : List (Nat × ByteArray)) (i : Nat) : ByteArray := ⟨((D.take i).flatMap fun x => (encS x.1 x.2).data.toList).toArray⟩
theorem accS_step (D : List (Nat × ByteArray)) (i : Nat) (h : i < D.length) : accS D i ++ encS D[i].1 D[i].2 = accS D (i + 1) := by
  apply ba_ext
  unfold accS
  rw [ByteArray.data_append, Array.toList_append, List.take_succ_eq_append_getElem h, List.flatMap_append]
  simp
theorem accS_size (D : List (Nat × ByteArray)) (i : Nat) : (accS D i).size ≤ (D.flatMap fun x => (encS x.1 x.2).data.toList).length := by
  have h : (D.flatMap fun x => (encS x.1 x.2).data.toList) = ((D.take i).flatMap fun x => (encS x.1 x.2).data.toList) ++ ((D.drop i).flatMap fun x => (encS x.1 x.2).data.toList) := by
    rw [← List.flatMap_append, List.take_append_drop]
  rw [h, List.length_append]
  show ((D.take i).flatMap fun x => (encS x.1 x.2).data.toList).toArray.size ≤ _
  simp
theorem pts_small : ∀ (f : Nat) (l : List UInt8), ∀ x ∈ ptsF f l, x.1 ≤ 1114111 ∧ x.2.size ≤ 4
  | 0, _, x, h => by cases h
  | f + 1, l, x, h => by
    rw [ptsF] at h
    split at h
    · cases h
    · rename_i hne
      rcases List.mem_cons.1 h with rfl | h
      · refine ⟨decodeL_rune l, ?_⟩
        have hl : 0 < l.length := List.length_pos_iff.2 hne
        obtain ⟨r, w, hrw⟩ : ∃ r w, decodeL l = (r, w) := ⟨_, _, rfl⟩
        have hN := hrw
        rw [decodeL_N] at hN
        have := (decodeN_conts hN hl).2.1
        rw [hrw]
        show ((l.take w).toArray).size ≤ 4
        simp
        omega
      · exact pts_small f _ x h
theorem Seg.num {w : World} {A : Option Addr} {D : List (Nat × ByteArray)} (h : Seg w A (numV D)) {k : Nat} (hk : k < D.length) : ∃ b off, A = some ⟨b, off, none⟩ ∧ b < w.heap.size ∧ w.cell? ⟨b, off + k, none⟩ = some (.int .i64 (D[k].1 : Int)) := by
  obtain ⟨b, off, e, hb, _, hc⟩ := h.pick (k := k) (by simpa [numV] using hk)
  refine ⟨b, off, e, hb, ?_⟩
  rw [hc]
  simp [numV]
theorem Seg.byt {w : World} {A : Option Addr} {D : List (Nat × ByteArray)} (h : Seg w A (bytV D)) {k : Nat} (hk : k < D.length) : ∃ b off, A = some ⟨b, off, none⟩ ∧ b < w.heap.size ∧ w.cell? ⟨b, off + k, none⟩ = some (.string D[k].2) := by
  obtain ⟨b, off, e, hb, _, hc⟩ := h.pick (k := k) (by simpa [bytV] using hk)
  refine ⟨b, off, e, hb, ?_⟩
  rw [hc]
  simp [bytV]
set_option maxRecDepth 100000 in
set_option maxHeartbeats 1000000 in
theorem rfold_any (s : ByteArray) (hs : s.size ≤ 400) (hv : Lib.validD s.data.toList = true) (w : World) :
    Calls Tryd.prog 19 #[.string s] w fun e w' => e = .returned (.string (foldS s)) ∧ Below w.heap.size w w' := by
  have CP := rpoints_any s (by omega) hv w
  have hlen := pts_len s.size s.data.toList
  have hsm := pts_small s.size s.data.toList
  obtain ⟨D, hD⟩ : ∃ D, D = pts s.data.toList := ⟨_, rfl⟩
  have hD' : D = ptsF s.size s.data.toList := hD
  rw [← hD'] at hlen hsm
  have hall : accS D D.length = foldS s := by
    apply ba_ext
    rw [foldS_list]
    unfold accS
    rw [List.take_length, hD, encs_fold _ _ (Nat.le_refl _) hv]
  have hsz : ∀ i, (accS D i).size ≤ 1604 := fun i => by
    have h1 := accS_size D i
    rw [hD, encs_fold _ _ (Nat.le_refl _) hv, ← foldS_list, len_list, ← hD] at h1
    have h2 := foldS_size s
    omega
  rw [← hD] at CP
  obtain ⟨n, hn⟩ : ∃ n, n = D.length := ⟨_, rfl⟩
  rw [← hn] at CP hall hlen
  have HCP := Lib.hid CP
  have HALL := Lib.hid hall
  have HSZ := Lib.hid hsz
  have HSM := Lib.hid hsm
  have HN := Lib.hid hn
  clear CP hall hsz hsm hn hD hD' hv
  go_enter Tryd.func19, Tryd.ntmps19
  go_wp2_with fail
  refine HCP.out.mono ?_
  rintro e w1 ⟨⟨A, B, c, d, rfl, hs1, hs2, _, _⟩, hb1⟩
  have HS1 := Lib.hid hs1
  have HS2 := Lib.hid hs2
  have HB1 := Lib.hid hb1
  clear hs1 hs2 hb1 HCP
  go_wp2
  go_loopw [3, 15] (fun tv iv wr => ∃ i : Nat, i ≤ n ∧ tv = .string (accS D i) ∧ iv = .int .i64 i ∧ Below w1.heap.size w1 wr) (fun _ iv _ => n - (intOf iv).toNat)
  case atStart => exact ⟨0, Nat.zero_le _, rfl, rfl, Below.refl _ _⟩
  case round =>
    obtain ⟨i, hi, rfl, rfl, hbr⟩ := hrel
    have HBR := Lib.hid hbr
    by_cases hin : i < n
    · have hiL : i < D.length := by have := HN.out; omega
      obtain ⟨g, o, hA, hg, hc1⟩ := Seg.num (HS1.out.bel hbr) hiL
      obtain ⟨g2, o2, hB, hg2, hc2⟩ := Seg.byt (HS2.out.bel hbr) hiL
      subst hA hB
      obtain ⟨hr1, hr2⟩ := HSM.out _ (List.getElem_mem hiL)
      have HST := Lib.hid (accS_step D i hiL)
      have z1 := HSZ.out i
      have i1 : (0 : Int) ≤ (i : Int) := by omega
      have i2 : (i : Int) < (n : Int) := by omega
      have hes : (encS D[i].1 D[i].2).size ≤ 1604 := by
        have h1 := HSZ.out (i + 1)
        rw [← HST.out, ByteArray.size_append] at h1
        omega
      generalize D[i].1 = r at *
      generalize D[i].2 = b at *
      obtain ⟨E, hE⟩ : ∃ E, E = encS r b := ⟨_, rfl⟩
      have CE := fun w => rencode_any r hr1 b w
      simp only [← hE] at CE
      rw [← hE] at hes HST
      have HCE := Lib.hid CE
      obtain ⟨T, hT⟩ : ∃ T, T = accS D i := ⟨_, rfl⟩
      rw [← hT] at z1 HST ⊢
      have a1 := fun w => run_string_add_sum (P := Tryd.prog) w T E (by omega)
      clear CE hE hT hbr
      go_wp2_with fail
      refine (HCE.out wr).mono ?_
      rintro e w2 ⟨rfl, hb2⟩
      have HB2 := Lib.hid (below_step HBR.out hb2)
      clear hb2
      go_wp2
      go_roundw
      case rel => exact ⟨i + 1, by omega, by rw [HST.out], by go_num, HB2.out⟩
      case measure => simp [intOf]; omega
    · have hie : i = n := by omega
      have HE := Lib.hid (show accS D i = foldS s by rw [hie, HALL.out])
      go_wp2
      go_ret
      exact ⟨by rw [HE.out]; rfl, below_step HB1.out HBR.out⟩
theorem text_ne {s : ByteArray} (h0 : ¬ s.size = 0) : (¬ s.toList = []) ∧ (s.toList == ByteArray.empty.toList) = false ∧ (s.toList != ByteArray.empty.toList) = true ∧ s.toList.isEmpty = false := by
  have hne3 : ¬ s.toList = [] := fun e => by
    have h2 := congrArg List.length e
    rw [ByteArray.toList_eq] at h2
    exact h0 ((Array.length_toList (xs := s.data)).symm.trans h2)
  have hne : (s.toList == ByteArray.empty.toList) = false := by rw [beq_of, decide_eq_false (fun e => h0 (by rw [e]; rfl))]
  refine ⟨hne3, hne, by rw [bne, hne]; rfl, ?_⟩
  cases hh : s.toList with
  | nil => exact absurd hh hne3
  | cons a t => rfl
theorem own_far {u v : Value} {a b : Nat} (h : ∀ k, u.ownBlock = some k → a ≤ k ∧ k < b) (k : ∀ k, v.ownBlock = some k → k < a ∨ b ≤ k) : u.ownBlock = none ∨ u.ownBlock ≠ v.ownBlock := by
  cases hu : u.ownBlock with
  | none => exact .inl rfl
  | some g =>
    right
    intro e
    have h1 := h g hu
    have h2 := k g e.symm
    omega
theorem tokR_go {D : List (Nat × ByteArray)} {i : Nat} (h : i < D.length) (w : ByteArray) : tokR (D.drop i) w = if letterB (D[i].1 : Int) = true then tokR (D.drop (i + 1)) (w ++ D[i].2) else (if 1 ≤ w.size ∧ w.size ≤ 32 then [w] else []) ++ tokR (D.drop (i + 1)) ByteArray.empty := by
  rw [List.drop_eq_getElem_cons h]
  rfl
theorem blank_list (f : ByteArray) : (f ++ bl1).data.toList = f.data.toList ++ [32] := by
  rw [ByteArray.data_append, Array.toList_append]
  rfl
theorem valid_blank {f : ByteArray} (h : Lib.validD f.data.toList = true) : Lib.validD (f ++ bl1).data.toList = true := by
  rw [blank_list]
  exact valid_jn _ _ [] (Nat.le_refl _) h rfl
set_option maxRecDepth 100000 in
set_option maxHeartbeats 2000000 in
theorem rtok_any (s : ByteArray) (hs : s.size ≤ 400) (hv : Lib.validD s.data.toList = true) (w : World) :
    Calls Tryd.prog 21 #[.string s] w fun e w' => (∃ v, e = .returned v ∧ w'.ownsRow w.heap.size 9 1 v (tokL s).length (strV (tokL s))) ∧ Below w.heap.size w w' := by
  obtain ⟨i0, hi, hz0, hz1, hz2⟩ := info_parts info_str
  have CF := fun w => rfold_any s hs hv w
  have hfz := foldS_size s
  have hT := tokR_eq s
  have hvf := valid_blank (foldS_valid hv)
  obtain ⟨f, hf⟩ : ∃ f, f = foldS s := ⟨_, rfl⟩
  simp only [← hf] at CF
  rw [← hf] at hfz hT hvf
  have a1 := fun w => run_string_add_sum (P := Tryd.prog) w f ⟨#[32]⟩ (by show f.size + 1 ≤ _; omega)
  have htx : f ++ ⟨#[32]⟩ = f ++ bl1 := rfl
  have htz : (f ++ bl1).size = f.size + 1 := by rw [ByteArray.size_append]; rfl
  rw [← blank_list] at hT
  obtain ⟨t, ht⟩ : ∃ t, t = f ++ bl1 := ⟨_, rfl⟩
  rw [htx, ← ht] at a1
  rw [← ht] at hT hvf htz
  have CP := fun w => rpoints_any t (by omega) hvf w
  have hlen := pts_len t.size t.data.toList
  have hsm := pts_small t.size t.data.toList
  obtain ⟨D, hD⟩ : ∃ D, D = pts t.data.toList := ⟨_, rfl⟩
  have hD' : D = ptsF t.size t.data.toList := hD
  rw [← hD'] at hlen hsm
  simp only [← hD] at CP
  rw [← hD] at hT
  obtain ⟨L, hL⟩ : ∃ L, L = tokL s := ⟨_, rfl⟩
  rw [← hL] at hT ⊢
  obtain ⟨n, hn⟩ : ∃ n, n = D.length := ⟨_, rfl⟩
  simp only [← hn] at CP
  rw [← hn] at hlen
  have HCF := Lib.hid CF
  have HCP := Lib.hid CP
  have HSM := Lib.hid hsm
  have HN := Lib.hid hn
  have HTK := Lib.hid hT
  have hn4 : n ≤ 1601 := by omega
  clear CF CP hsm hn hD hD' hv hf hvf ht htx hL hT hlen
  go_enter Tryd.func21, Tryd.ntmps21
  go_wp2_with fail
  refine (HCF.out _).mono ?_
  rintro e w1 ⟨rfl, hb1⟩
  have HB1 := Lib.hid (((Below.refl w.heap.size w).alloc (Nat.le_refl _) (.cells #[] 9)).trans (hb1.mono (by rw [World.size_alloc]; omega)))
  have HO1 := Lib.hid (own_bel (World.ownsRow_lit w #[] 0 (Nat.le_refl _) (by decide) rfl : (w.alloc (.cells #[] 9)).ownsRow w.heap.size 9 1 (.slice (some ⟨w.heap.size, 0, none⟩) 0 0) 0 []) hb1)
  clear hb1 HCF
  go_wp2_with fail
  refine (HCP.out w1).mono ?_
  rintro e w2 ⟨⟨A, B, c, d, rfl, _, _, hs1, hs2⟩, hb2⟩
  have hw1 : w.heap.size < w1.heap.size := HO1.out.lt _ rfl |>.2
  have HW1 := Lib.hid hw1
  have HW2 := Lib.hid hb2.size
  have hbk : ∀ k, (Value.slice B n d).ownBlock = some k → w1.heap.size ≤ k ∧ k < w2.heap.size := fun k hk => hs2.lt k hk
  have HBK := Lib.hid hbk
  clear hbk hw1
  have HS1 := Lib.hid hs1
  have HS2 := Lib.hid hs2
  have HB2 := Lib.hid (below_step HB1.out hb2)
  have HO2 := Lib.hid (own_bel HO1.out hb2)
  clear hs1 hs2 hb2 HCP HB1 HO1
  go_wp2
  go_loopw [3, 4, 19] (fun ov tv iv wr => ∃ (i : Nat) (O : List ByteArray) (x : ByteArray), i ≤ n ∧ O.length ≤ i ∧ x.size ≤ 4 * i ∧ tv = .string x ∧ iv = .int .i64 i ∧ Hid (O ++ tokR (D.drop i) x = L) ∧ wr.ownsRow w.heap.size 9 1 ov O.length (strV O) ∧ Below w.heap.size w wr ∧ Hid (w2.heap.size ≤ wr.heap.size ∧ ∀ k, ov.ownBlock = some k → k < w1.heap.size ∨ w2.heap.size ≤ k) ∧ wr.ownsRow w1.heap.size 3 1 (.slice A n c) n (numV D) ∧ wr.ownsRow w1.heap.size 9 1 (.slice B n d) n (bytV D)) (fun _ _ iv _ => n - (intOf iv).toNat)
  case atStart => exact ⟨0, [], ByteArray.empty, Nat.zero_le _, Nat.le_refl _, Nat.zero_le _, rfl, rfl, Lib.hid HTK.out, HO2.out, HB2.out, Lib.hid ⟨Nat.le_refl _, fun k hk => by injection hk with hk; subst hk; exact .inl HW1.out⟩, HS1.out, HS2.out⟩
  case round =>
    obtain ⟨i, O, x, hin', hO, hx, rfl, rfl, HT, ho, hbr, HOV, hsg1, hsg2⟩ := hrel
    by_cases hin : i < n
    · have hiL : i < D.length := by have := HN.out; omega
      obtain ⟨g, o, hA, hg, hc1⟩ := Seg.num (Seg.of_own hsg1) hiL
      obtain ⟨g2, o2, hB, hg2, hc2⟩ := Seg.byt (Seg.of_own hsg2) hiL
      have HSG1 := Lib.hid hsg1
      have HSG2 := Lib.hid hsg2
      have HO := Lib.hid ho
      have HBR := Lib.hid hbr
      clear hsg1 hsg2 ho hbr
      subst hA hB
      obtain ⟨hr1, hr2⟩ := HSM.out _ (List.getElem_mem hiL)
      have HST := Lib.hid (tokR_go hiL x)
      have i1 : (0 : Int) ≤ (i : Int) := by omega
      have i2 : (i : Int) < (n : Int) := by omega
      generalize D[i].1 = r at *
      generalize D[i].2 = b at *
      cases hlt : letterB (r : Int)
      · rw [hlt, if_neg (by decide)] at HST
        by_cases hx0 : x.size = 0
        · obtain rfl := empty_of hx0
          have HT2 := Lib.hid (show O ++ tokR (D.drop (i + 1)) ByteArray.empty = L by rw [← HT.out, HST.out]; rfl)
          clear HT HST
          go_wp2_with (first | (go_at_call 13; refine (rletter_any (r : Int) (by omega) _).mono ?_; rintro e wr ⟨rfl, rfl⟩; rw [hlt]) | go_in)
          go_roundw
          case rel => exact ⟨i + 1, O, ByteArray.empty, by omega, by omega, Nat.zero_le _, rfl, by go_num, HT2, HO.out, HBR.out, HOV, HSG1.out, HSG2.out⟩
          case measure => simp [intOf]; omega
        · obtain ⟨n1, n2, n3, n4⟩ := text_ne hx0
          by_cases h32 : x.size ≤ 32
          · have HT2 := Lib.hid (show (O ++ [x]) ++ tokR (D.drop (i + 1)) ByteArray.empty = L by rw [← HT.out, HST.out, if_pos ⟨by omega, h32⟩, List.append_assoc])
            have h32' : (x.size : Int) ≤ 32 := by omega
            have hws := HBR.out.size
            clear HT HST
            go_wp2_with (first
              | (go_at_call 13; refine (rletter_any (r : Int) (by omega) _).mono ?_; rintro e wr ⟨rfl, rfl⟩; rw [hlt])
              | (at_builtin; refine wpList_append_own_at _ rfl _ _ 31 rfl w.heap.size 9 i0 (.string ⟨#[]⟩) 1 16 Tryd.underlying31 hi hz0 hz1 hz2 rfl (by decide) _ _ _ rfl (HO.out.alloc _) ⟨wr.heap.size, 0, none⟩ 1 1 [.string x] rfl rfl (cell_one_new _ _ _) (strV_one [x]) (by simp only [maxLen]; omega) (by omega) (by rw [World.size_alloc]; omega) ?_; intro v' w4 hown4 hgrow4 _ hat4)
              | go_in)
            have hsz4 := hgrow4.size
            rw [World.size_alloc] at hsz4
            have HF := Lib.hid hown4
            have HFB := Lib.hid ((HBR.out.alloc hws (.cells #[.string x] 9)).grown hgrow4 (by rw [World.size_alloc]; omega) (fun j hj => (HO.out.lt j hj).1))
            have HF1 := Lib.hid ((HSG1.out.alloc (.cells #[.string x] 9)).kept hgrow4 (own_types (HSG1.out.alloc (.cells #[.string x] 9)) (HO.out.alloc (.cells #[.string x] 9)) (by decide)))
            have HF2 := Lib.hid ((HSG2.out.alloc (.cells #[.string x] 9)).kept hgrow4 (own_far HBK.out HOV.out.2))
            have HOV2 := Lib.hid (show w2.heap.size ≤ w4.heap.size ∧ ∀ k, v'.ownBlock = some k → k < w1.heap.size ∨ w2.heap.size ≤ k from ⟨by have := HOV.out.1; omega, fun k hk => by
              rcases hat4 with h | h
              · exact HOV.out.2 k (h ▸ hk)
              · rw [hk] at h
                injection h with h
                right
                have := HOV.out.1
                rw [h, World.size_alloc]
                omega⟩)
            clear hgrow4 hown4 hat4
            go_roundw
            case rel => exact ⟨i + 1, O ++ [x], ByteArray.empty, by omega, by rw [List.length_append]; simp; omega, Nat.zero_le _, rfl, by go_num, HT2, by rw [List.length_append, strV_append]; exact HF.out, HFB.out, HOV2, HF1.out, HF2.out⟩
            case measure => simp [intOf]; omega
          · have HT2 := Lib.hid (show O ++ tokR (D.drop (i + 1)) ByteArray.empty = L by rw [← HT.out, HST.out, if_neg (by omega)]; rfl)
            have h32' : ¬ (x.size : Int) ≤ 32 := by omega
            clear HT HST
            go_wp2_with (first | (go_at_call 13; refine (rletter_any (r : Int) (by omega) _).mono ?_; rintro e wr ⟨rfl, rfl⟩; rw [hlt]) | go_in)
            go_roundw
            case rel => exact ⟨i + 1, O, ByteArray.empty, by omega, by omega, Nat.zero_le _, rfl, by go_num, HT2, HO.out, HBR.out, HOV, HSG1.out, HSG2.out⟩
            case measure => simp [intOf]; omega
      · rw [hlt, if_pos rfl] at HST
        have HT2 := Lib.hid (show O ++ tokR (D.drop (i + 1)) (x ++ b) = L by rw [← HST.out]; exact HT.out)
        have hxz : (x ++ b).size = x.size + b.size := ByteArray.size_append
        have a2 := fun w => run_string_add_sum (P := Tryd.prog) w x b (by omega)
        obtain ⟨y, hy⟩ : ∃ y, y = x ++ b := ⟨_, rfl⟩
        simp only [← hy] at a2
        rw [← hy] at HT2 hxz
        clear hy
        go_wp2_with (first | (go_at_call 13; refine (rletter_any (r : Int) (by omega) _).mono ?_; rintro e wr ⟨rfl, rfl⟩; rw [hlt]) | go_in)
        go_roundw
        case rel => exact ⟨i + 1, O, y, by omega, by omega, by omega, rfl, by go_num, HT2, HO.out, HBR.out, HOV, HSG1.out, HSG2.out⟩
        case measure => simp [intOf]; omega
    · have hie : i = n := by omega
      have HE := Lib.hid (show O = L by
        have := HT.out
        rw [List.drop_of_length_le (by have := HN.out; omega)] at this
        rw [← this]
        show O = O ++ []
        rw [List.append_nil])
      have HO := Lib.hid ho
      have HBR := Lib.hid hbr
      clear ho hbr hsg1 hsg2
      go_wp2
      go_ret
      exact ⟨⟨_, rfl, by rw [← HE.out]; exact HO.out⟩, HBR.out⟩
end Go.Proofs.YtahpiminhlineaaDoor
