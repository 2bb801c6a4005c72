/- The reference's Sort: the numbers put in their places. Condition: the numbers lie in memory. -/
import Derived.Test.YtjlkmfnkpnmbiaaDoorFsM
import Derived.Test.YtjlkmfnkpnmbiaaDoorEnds
import Derived.Maps.AppendAt
namespace Go.Proofs.YtjlkmfnkpnmbiaaDoor
open Go.RowKit

theorem info_u64 : (Tryd.prog.info? 22).map (fun i => (i.zero, i.size, i.bytes)) = some (some (.int .u64 0), 1, 8) := by kernel_rfl
theorem u64s_app (l : List Nat) (u : Nat) : u64s (l ++ [u]) = u64s l ++ [.int .u64 (u : Int)] := by simp [u64s]
theorem u64_one (u : Nat) : ∀ v ∈ [Value.int .u64 (u : Int)], v.oneCell' = true := by intro v hv; simp at hv; subst hv; rfl
theorem own_base {w : World} {base base' : Nat} {e : TypeId} {size : Nat} {v : Value} {n : Nat} {xs : List Value} (h : w.ownsRow base e size v n xs) (hb : base' ≤ base) : w.ownsRow base' e size v n xs := by
  refine ⟨h.1, ?_⟩
  rcases h.2 with h0 | ⟨g, cap, cur, hv, hg, rest⟩
  · exact .inl h0
  · exact .inr ⟨g, cap, cur, hv, Nat.le_trans hb hg, rest⟩
theorem insN_len (u : Nat) (l : List Nat) : (insN u l).length = l.length + 1 := by simpa using (insN_perm u l).length_eq
theorem sortN_len (l : List Nat) : (sortN l).length = l.length := (sortN_perm l).length_eq
/-- What is still to be put behind. -/
def restN (u : Nat) (done : Bool) (l : List Nat) : List Nat := if done then l else insN u l
theorem rest_cons (u v : Nat) (done : Bool) (t : List Nat) : restN u done (v :: t) = if done = true then v :: restN u true t else if cmpN u v < 0 then u :: v :: restN u true t else v :: restN u false t := by
  cases done <;> simp [restN, insN]
set_option maxRecDepth 100000 in
set_option maxHeartbeats 2000000 in
theorem rsort_any (A : Option Addr) (n c : Nat) (l : List Nat) (hn : n = l.length) (w : World) (hA : Seg w A (u64s l)) (hl : ∀ x ∈ l, x < 18446744073709551616) (h60 : n ≤ 60) :
    Calls Tryd.prog 24 #[.slice A n c] w fun e w' => (∃ B d, e = .returned (.slice B n d) ∧ n ≤ d ∧ Seg w' B (u64s (sortN l))) ∧ Below w.heap.size w w' := by
  obtain ⟨i0, hi, hz0, hz1, hz2⟩ := info_parts info_u64
  have HA := Lib.hid hA
  have HN := Lib.hid hn
  have HL := Lib.hid hl
  clear hA hn hl
  go_enter Tryd.func24, Tryd.ntmps24
  go_wp2
  go_loopw [3, 13] (fun ov iv wr => ∃ i : Nat, i ≤ n ∧ iv = .int .i64 i ∧ wr.ownsRow w.heap.size 22 1 ov i (u64s (sortN (l.take i))) ∧ Below w.heap.size w wr) (fun _ iv _ => n - (intOf iv).toNat)
  case atStart => exact ⟨0, Nat.zero_le _, rfl, World.ownsRow_lit (w := w) (base := w.heap.size) (e := 22) (size := 1) #[] 0 (Nat.le_refl _) (by decide) rfl, (Below.refl _ _).alloc (Nat.le_refl _) _⟩
  case round =>
    obtain ⟨i, hi', rfl, ho, hb⟩ := hrel
    obtain ⟨W1, hW1⟩ : ∃ x, x = wr := ⟨_, rfl⟩
    subst hW1
    have HO := Lib.hid ho
    have HB := Lib.hid hb
    by_cases hin : i < n
    · have hiL : i < l.length := by have := HN.out; omega
      obtain ⟨g, o, rfl, hg, _, hc⟩ := (HA.out.bel hb).pick (k := i) (by rw [u64s_length]; exact hiL)
      rw [u64s_get l i hiL] at hc
      obtain ⟨OA, oc, rfl, hoc, hseg⟩ := own_shape ho
      have HSEG := Lib.hid hseg
      have hsn : sortN (l.take (i + 1)) = insN l[i] (sortN (l.take i)) := by rw [List.take_succ_eq_append_getElem hiL, sortN_snoc]
      have hu := HL.out _ (List.getElem_mem hiL)
      have hSlt : ∀ x ∈ sortN (l.take i), x < 18446744073709551616 := fun x hx => HL.out x (List.mem_of_mem_take ((sortN_perm _).mem_iff.1 hx))
      have hSn : i = (sortN (l.take i)).length := by rw [sortN_len, List.length_take]; omega
      obtain ⟨u, hU⟩ : ∃ u, u = l[i] := ⟨_, rfl⟩
      rw [← hU] at hc hsn hu
      obtain ⟨T, hT⟩ : ∃ T, T = sortN (l.take i) := ⟨_, rfl⟩
      rw [← hT] at HSEG hsn hSlt hSn
      have HSN := Lib.hid hsn
      have HSL := Lib.hid hSlt
      have HSZ := Lib.hid hSn
      have i1 : (0 : Int) ≤ (i : Int) := by omega
      have i2 : (i : Int) < (n : Int) := by omega
      clear ho hb hseg hU hT hsn hSlt hSn
      go_wp2
      go_loopw [6, 7, 20] (fun nv fv jv wx => ∃ (j : Nat) (X : List Nat) (f : Bool), j ≤ i ∧ jv = .int .i64 j ∧ fv = .bool f ∧ (X.length ≤ j + 1 ∧ (f = false → X.length ≤ j)) ∧ Hid (X ++ restN u f (T.drop j) = insN u T) ∧ wx.ownsRow W1.heap.size 22 1 nv X.length (u64s X) ∧ Below W1.heap.size W1 wx) (fun _ _ jv _ => i - (intOf jv).toNat)
      case atStart => exact ⟨0, [], false, Nat.zero_le _, rfl, rfl, ⟨Nat.zero_le _, fun _ => Nat.zero_le _⟩, Lib.hid rfl, World.ownsRow_lit (w := W1) (base := W1.heap.size) (e := 22) (size := 1) #[] 0 (Nat.le_refl _) (by decide) rfl, (Below.refl _ _).alloc (Nat.le_refl _) _⟩
      case round =>
        obtain ⟨j, X, f, hj, rfl, rfl, ⟨hXl, hXf⟩, HX, hox, hbx⟩ := hrel
        have HOX := Lib.hid hox
        have HBX := Lib.hid hbx
        have hsz := hbx.size
        by_cases hji : j < i
        · have hjT : j < T.length := by have := HSZ.out; omega
          obtain ⟨g3, o3, hOA, hg3, _, hc3⟩ := (HSEG.out.bel hbx).pick (k := j) (by rw [u64s_length]; exact hjT)
          rw [u64s_get T j hjT] at hc3
          subst hOA
          have hv := HSL.out _ (List.getElem_mem hjT)
          have hrc := rest_cons u T[j] f (T.drop (j + 1))
          rw [← List.drop_eq_getElem_cons hjT] at hrc
          obtain ⟨v, hV⟩ : ∃ v, v = T[j] := ⟨_, rfl⟩
          rw [← hV] at hc3 hv hrc
          have HRC := Lib.hid hrc
          have j1 : (0 : Int) ≤ (j : Int) := by omega
          have j2 : (j : Int) < (i : Int) := by omega
          clear hV hrc hox hbx
          cases f
          · have hXj := hXf rfl
            rw [if_neg (by decide)] at HRC
            by_cases hcm : cmpN u v < 0
            · rw [if_pos hcm] at HRC
              have HX2 := Lib.hid (show (X ++ [u] ++ [v]) ++ restN u true (T.drop (j + 1)) = insN u T by rw [← HX.out, HRC.out]; simp)
              clear HRC
              go_wp2_with (first | (go_at_call 18; refine (refcmp_any u v hu hv _).mono ?_; rintro e wr ⟨rfl, rfl⟩) | (at_builtin; refine wpList_append_seg _ rfl _ _ _ rfl W1.heap.size 22 i0 _ 8 Tryd.underlying36 hi hz0 hz1 hz2 rfl _ (X.length) (u64s X) rfl (own_alloc HOX.out _) (some ⟨wr.heap.size, 0, none⟩) 1 1 [.int .u64 (u : Int)] rfl rfl (seg_new _ _ _) (u64_one u) (by simp only [maxLen]; omega) (by omega) (by simp only [World.size_alloc]; omega) ?_; intro v1' w1 hown1 hb1; rw [← u64s_app] at hown1; have hs1 := ((HBX.out.alloc hsz _).trans hb1).size) | (at_builtin; refine wpList_append_seg _ rfl _ _ _ rfl W1.heap.size 22 i0 _ 8 Tryd.underlying36 hi hz0 hz1 hz2 rfl _ (X.length + 1) (u64s (X ++ [u])) rfl (own_alloc hown1 _) (some ⟨w1.heap.size, 0, none⟩) 1 1 [.int .u64 (v : Int)] rfl rfl (seg_new _ _ _) (u64_one v) (by simp only [maxLen]; omega) (by omega) (by simp only [World.size_alloc]; omega) ?_; intro v2' w2 hown2 hb2; rw [← u64s_app] at hown2) | go_in)
              go_roundw
              case rel => exact ⟨j + 1, X ++ [u] ++ [v], true, by omega, by go_num, rfl, ⟨by simp only [List.length_append, List.length_cons, List.length_nil]; omega, fun hf => by first | (cases hf; done) | (simp only [List.length_append, List.length_cons, List.length_nil]; omega)⟩, HX2, by simpa only [List.length_append, List.length_cons, List.length_nil] using hown2, ((HBX.out.alloc hsz _).trans hb1 |>.alloc hs1 _).trans hb2⟩
              case measure => simp [intOf]; omega
            · rw [if_neg hcm] at HRC
              have HX2 := Lib.hid (show (X ++ [v]) ++ restN u false (T.drop (j + 1)) = insN u T by rw [← HX.out, HRC.out]; simp)
              clear HRC
              go_wp2_with (first | (go_at_call 18; refine (refcmp_any u v hu hv _).mono ?_; rintro e wr ⟨rfl, rfl⟩) | (at_builtin; refine wpList_append_seg _ rfl _ _ _ rfl W1.heap.size 22 i0 _ 8 Tryd.underlying36 hi hz0 hz1 hz2 rfl _ (X.length) (u64s X) rfl (own_alloc HOX.out _) (some ⟨wr.heap.size, 0, none⟩) 1 1 [.int .u64 (v : Int)] rfl rfl (seg_new _ _ _) (u64_one v) (by simp only [maxLen]; omega) (by omega) (by simp only [World.size_alloc]; omega) ?_; intro v1' w1 hown1 hb1; rw [← u64s_app] at hown1) | go_in)
              go_roundw
              case rel => exact ⟨j + 1, X ++ [v], false, by omega, by go_num, rfl, ⟨by simp only [List.length_append, List.length_cons, List.length_nil]; omega, fun hf => by first | (cases hf; done) | (simp only [List.length_append, List.length_cons, List.length_nil]; omega)⟩, HX2, by simpa only [List.length_append, List.length_cons, List.length_nil] using hown1, (HBX.out.alloc hsz _).trans hb1⟩
              case measure => simp [intOf]; omega
          · rw [if_pos rfl] at HRC
            have HX2 := Lib.hid (show (X ++ [v]) ++ restN u true (T.drop (j + 1)) = insN u T by rw [← HX.out, HRC.out]; simp)
            clear HRC
            go_wp2_with (first | (at_builtin; refine wpList_append_seg _ rfl _ _ _ rfl W1.heap.size 22 i0 _ 8 Tryd.underlying36 hi hz0 hz1 hz2 rfl _ (X.length) (u64s X) rfl (own_alloc HOX.out _) (some ⟨wr.heap.size, 0, none⟩) 1 1 [.int .u64 (v : Int)] rfl rfl (seg_new _ _ _) (u64_one v) (by simp only [maxLen]; omega) (by omega) (by simp only [World.size_alloc]; omega) ?_; intro v1' w1 hown1 hb1; rw [← u64s_app] at hown1) | go_in)
            go_roundw
            case rel => exact ⟨j + 1, X ++ [v], true, by omega, by go_num, rfl, ⟨by simp only [List.length_append, List.length_cons, List.length_nil]; omega, fun hf => by first | (cases hf; done) | (simp only [List.length_append, List.length_cons, List.length_nil]; omega)⟩, HX2, by simpa only [List.length_append, List.length_cons, List.length_nil] using hown1, (HBX.out.alloc hsz _).trans hb1⟩
            case measure => simp [intOf]; omega
        · have hje : j = i := by omega
          have hdr : T.drop j = [] := List.drop_eq_nil_of_le (by have := HSZ.out; omega)
          rw [hdr] at HX
          have hil : (insN u T).length = i + 1 := by rw [insN_len, ← HSZ.out]
          cases f
          · have HX2 := Lib.hid (show X ++ [u] = insN u T from HX.out)
            have hXi : X.length = i := by have := congrArg List.length HX2.out; rw [List.length_append, hil] at this; simpa using this
            have HXI := Lib.hid hXi
            clear hox hbx hdr hil hXi
            go_wp2_with (first | (at_builtin; refine wpList_append_seg _ rfl _ _ _ rfl W1.heap.size 22 i0 _ 8 Tryd.underlying36 hi hz0 hz1 hz2 rfl _ (X.length) (u64s X) rfl (own_alloc HOX.out _) (some ⟨wr.heap.size, 0, none⟩) 1 1 [.int .u64 (u : Int)] rfl rfl (seg_new _ _ _) (u64_one u) (by simp only [maxLen]; omega) (by omega) (by simp only [World.size_alloc]; omega) ?_; intro v1' w1 hown1 hb1; rw [← u64s_app] at hown1; have hs1 := ((HBX.out.alloc hsz _).trans hb1).size) | go_in)
            go_roundw
            case rel =>
              refine ⟨i + 1, by omega, by go_num, ?_, (HB.out.trans ((HBX.out.alloc hsz _).trans hb1 |>.mono HB.out.size))⟩
              rw [HSN.out, ← HX2.out]
              exact own_base (by rw [← HXI.out]; exact hown1) HB.out.size
            case measure => simp [intOf]; omega
          · have HX2 := Lib.hid (show X = insN u T by rw [← HX.out]; show X = X ++ []; rw [List.append_nil])
            have hXi : X.length = i + 1 := by rw [HX2.out, hil]
            have HXI := Lib.hid hXi
            clear hox hbx hdr hil hXi
            go_wp2
            go_roundw
            case rel =>
              refine ⟨i + 1, by omega, by go_num, ?_, HB.out.trans (HBX.out.mono HB.out.size)⟩
              rw [HSN.out, ← HX2.out]
              exact own_base (by rw [← HXI.out]; exact HOX.out) HB.out.size
            case measure => simp [intOf]; omega
    · have hie : i = n := by omega
      have hLt : l.take i = l := List.take_of_length_le (by have := HN.out; omega)
      rw [hLt] at ho
      obtain ⟨OA, oc, rfl, hoc, hseg⟩ := own_shape ho
      have HSEG := Lib.hid hseg
      subst hie
      clear ho hb hseg hLt HO
      go_wp2
      go_ret
      exact ⟨⟨OA, oc, rfl, hoc, HSEG.out⟩, HB.out⟩
end Go.Proofs.YtjlkmfnkpnmbiaaDoor
