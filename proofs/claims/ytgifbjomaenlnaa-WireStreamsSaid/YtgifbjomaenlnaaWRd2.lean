/- The steps of a reader of the wire: a byte, a number, an entry. Condition: the bytes lie in memory, apart from the reader itself. -/
import Derived.Test.YtgifbjomaenlnaaWRd
import Derived.Test.YtgifbjomaenlnaaWRdM
import Derived.IntWalk
import Derived.BigQuiet
import Derived.Laws.Shifts
import Derived.Laws.BitsAllLaws
import Derived.Deep.QuietTactic
namespace Go.Proofs.Ytgifbjomaenlnaa
open Go.RowKit
variable {B : Nat}

theorem Rd.drewN {w : World} {q : Nat} {l : List Nat} (h : Rd B w q l) (n : Nat) : Rd B (w.drewN n) q l := h
/-- A reader's answer, or its giving up. -/
def RdPost (B q : Nat) (w : World) (p : Option (Value × List Nat)) (e : Ending) (w' : World) : Prop := KQ q w w' ∧ match p with
  | some (v, r) => e = .returned v ∧ Rd B w' q r
  | none => e = .panicked brokenE
def byteP : List Nat → Option (Value × List Nat)
  | [] => none
  | x :: r => some (.int .u8 (x : Int), r)
theorem byte_any (q : Nat) (l : List Nat) (w : World) (h : Rd B w q l) :
    Calls Try.prog 35 #[.pointer (some ⟨q, 0, none⟩)] w (RdPost B q w (byteP l)) := by
  rcases l with _ | ⟨x, l⟩
  · have HT := Lib.hid (take_no q 1 [] w h (by simp))
    go_enter Try.func35, Try.ntmps35
    go_wp2_with fail
    refine HT.out.mono ?_
    rintro e w1 ⟨rfl, rfl⟩
    exact ⟨rfl, KQ.refl _ _, rfl⟩
  · have HT := Lib.hid (take_ok q 1 (x :: l) w h (by simp))
    clear h
    go_enter Try.func35, Try.ntmps35
    go_wp2_with fail
    refine HT.out.mono ?_
    rintro e w1 ⟨⟨A, c, rfl, hc, hs⟩, hr, hk⟩
    obtain ⟨b, off, rfl, _, _, hcell⟩ := hs.pick (k := 0) (by simp [u8s])
    have hcell : w1.cell? ⟨b, off + 0, none⟩ = some (.int .u8 (x : Int)) := hcell
    rw [Nat.add_zero] at hcell
    have HR := Lib.hid hr
    have HK := Lib.hid hk
    clear hr hk hs
    go_wp2_with fail
    go_ret
    exact ⟨HK.out, rfl, HR.out⟩
theorem clear7 (x : Nat) (hx : x < 256) : bits .andNot .u8 (x : Int) 128 = ((x % 128 : Nat) : Int) := by
  have h : ∀ x : Nat, x < 256 → bits .andNot .u8 (x : Int) 128 = ((x % 128 : Nat) : Int) := by decide +kernel
  exact h x hx
theorem shl7 (y s : Nat) : Op.shift .shl .u64 (y : Int) .i64 (s : Int) = pure (.int .u64 ((y * 2 ^ s % 18446744073709551616 : Nat) : Int)) := by
  rw [shift_shl_any _ _ _ _ (by omega)]
  congr 2
  show IntKind.u64.wrap ((y : Int) * 2 ^ min (Int.toNat (s : Int)) 64) = _
  rw [IntKind.wrap_u64, Int.toNat_natCast]
  have h0 : (2 : Int) ^ 64 = 18446744073709551616 := rfl
  rcases Nat.lt_or_ge s 64 with h | h
  · rw [Nat.min_eq_left (by omega)]
    rw [Int.natCast_emod, Int.natCast_mul, Int.natCast_pow]
    rfl
  · rw [Nat.min_eq_right h, h0]
    have e : (2 : Nat) ^ s = 2 ^ (s - 64) * 18446744073709551616 := by
      rw [show (18446744073709551616 : Nat) = 2 ^ 64 from rfl, ← Nat.pow_add]
      congr 1
      omega
    rw [e, ← Nat.mul_assoc, Nat.mul_mod_left]
    exact Int.mul_emod_left _ _
theorem unzig_bits (u : Nat) (hu : u < 18446744073709551616) : bits .xor .i64 ((u / 2 : Nat) : Int) (-((u % 2 : Nat) : Int)) = unzig u := by
  have ha : u / 2 < 9223372036854775808 := by omega
  have e1 : (BitVec.ofInt 64 ((u / 2 : Nat) : Int)) = BitVec.ofNat 64 (u / 2) := BitVec.ofInt_natCast 64 (u / 2)
  show IntKind.i64.wrap ((BitVec.ofInt 64 ((u / 2 : Nat) : Int) ^^^ BitVec.ofInt 64 (-((u % 2 : Nat) : Int))).toNat : Int) = _
  unfold unzig
  by_cases h : u % 2 = 0
  · rw [if_pos h, h, show (-((0 : Nat) : Int)) = 0 by rfl, show BitVec.ofInt 64 0 = 0#64 by decide, BitVec.xor_zero, e1, BitVec.toNat_ofNat, Nat.mod_eq_of_lt (by omega)]
    exact IntWalk.i64_in _ (by omega)
  · have h1 : u % 2 = 1 := by omega
    rw [if_neg h, h1, show (-((1 : Nat) : Int)) = -1 by rfl, show BitVec.ofInt 64 (-1) = BitVec.allOnes 64 by decide, BitVec.xor_allOnes, BitVec.toNat_not, e1, BitVec.toNat_ofNat, Nat.mod_eq_of_lt (by omega), IntKind.wrap_i64]
    omega
theorem unzig_walk (u : Nat) (hu : u < 18446744073709551616) : bits .xor .i64 ((u : Int) / 2) (wrap64 (-wrap64 (bits .and .u64 (u : Int) 1))) = unzig u := by
  rw [← unzig_bits u hu, show (1 : Int) = ((1 : Nat) : Int) from rfl, u64_and_nat _ _ hu (by omega), Nat.and_one_is_mod, show wrap64 ((u % 2 : Nat) : Int) = ((u % 2 : Nat) : Int) by unfold wrap64; omega, show wrap64 (-((u % 2 : Nat) : Int)) = -((u % 2 : Nat) : Int) by unfold wrap64; omega]
  rfl
set_option maxRecDepth 100000 in
theorem number_any (q : Nat) (l : List Nat) (w : World) (h : Rd B w q l) (hl : ∀ x ∈ l, x < 256) (hb : l.length ≤ 100000) :
    Calls Try.prog 36 #[.pointer (some ⟨q, 0, none⟩)] w (RdPost B q w ((numP 0 0 l).map fun p => (.int .i64 p.1, p.2))) := by
  have HR0 := Lib.hid h
  have HL := Lib.hid hl
  obtain ⟨n0, hn0⟩ : ∃ n0, n0 = l.length := ⟨_, rfl⟩
  rw [← hn0] at hb
  have HN0 := Lib.hid hn0
  obtain ⟨Z, hZ⟩ : ∃ Z, Z = numP 0 0 l := ⟨_, rfl⟩
  rw [← hZ]
  have HZ := Lib.hid hZ
  clear h hl hn0 hZ
  go_enter Try.func36, Try.ntmps36
  go_wp2_with fail
  go_loopw [3, 4] (fun u s wr => ∃ (U k : Nat) (r : List Nat), u = .int .u64 (U : Int) ∧ s = .int .i64 ((7 * k : Nat) : Int) ∧ U < 18446744073709551616 ∧ Hid (k + r.length = n0 ∧ numP U (7 * k) r = Z ∧ (∀ x ∈ r, x < 256)) ∧ k ≤ n0 ∧ Hid (Rd B wr q r) ∧ Hid (KQ q w wr)) (fun _ s _ => n0 * 7 - (intOf s).toNat)
  case atStart => exact ⟨0, 0, l, rfl, rfl, by omega, Lib.hid ⟨by rw [HN0.out]; omega, HZ.out.symm, HL.out⟩, by omega, HR0, Lib.hid (KQ.refl _ _)⟩
  case round =>
    clear HR0
    obtain ⟨U, k, r, rfl, rfl, hU, HI, hk, HR, HK⟩ := hrel
    have C := byte_any q r wr HR.out
    rcases r with _ | ⟨x, r⟩
    · have C1 := Lib.hid C
      have HZ2 := Lib.hid (show Z = none from HI.out.2.1.symm.trans rfl)
      clear C HI HR
      go_wp2_with fail
      refine C1.out.mono ?_
      rintro e w1 ⟨hk1, rfl⟩
      refine ⟨rfl, ?_⟩
      rw [HZ2.out]
      exact ⟨HK.out.trans hk1, rfl⟩
    · have C1 := Lib.hid C
      have hx := HI.out.2.2 x (by simp)
      obtain ⟨y, hy⟩ : ∃ y, y = x % 128 := ⟨_, rfl⟩
      have o1 := clear7 x hx
      rw [← hy] at o1
      obtain ⟨s, hs⟩ : ∃ s, s = 7 * k := ⟨_, rfl⟩
      rw [← hs]
      obtain ⟨T, hT⟩ : ∃ T, T = y * 2 ^ s % 18446744073709551616 := ⟨_, rfl⟩
      have o2 := shl7 y s
      rw [← hT] at o2
      have hT2 : T < 18446744073709551616 := by rw [hT]; omega
      obtain ⟨V, hV⟩ : ∃ V, V = U ||| T := ⟨_, rfl⟩
      have hV2 : V < 18446744073709551616 := by
        rw [hV]
        exact Nat.or_lt_two_pow (n := 64) hU hT2
      have o3 : bits .or .u64 (U : Int) (T : Int) = (V : Int) := by rw [u64_or_nat _ _ hU hT2, hV]
      have hy2 : y < 128 := by omega
      have HY := Lib.hid hy
      have HS := Lib.hid hs
      have HT := Lib.hid hT
      have HV := Lib.hid hV
      clear C hy hs hT hV HR
      go_wp2_with fail
      refine C1.out.mono ?_
      rintro e w1 ⟨hk1, rfl, hr1⟩
      have HR1 := Lib.hid hr1
      have HK1 := Lib.hid (HK.out.trans hk1)
      clear hk1 hr1
      have HK' := Lib.hid (show k + 1 ≤ n0 by have := HI.out.1; simp only [List.length_cons] at this; omega)
      have hs7 : s ≤ 700000 := by rw [HS.out]; omega
      by_cases h128 : x < 128
      · have hxi : ¬ (128 : Int) ≤ (x : Int) := by omega
        have HZ2 := Lib.hid (show Z = some (unzig V, r) by
          rw [← HI.out.2.1]
          show (if x < 128 then some (unzig (U ||| ((x % 128) * 2 ^ (7 * k) % 18446744073709551616)), r) else numP (U ||| ((x % 128) * 2 ^ (7 * k) % 18446744073709551616)) (7 * k + 7) r) = _
          rw [if_pos h128, ← HY.out, ← HS.out, ← HT.out, ← HV.out])
        clear HI
        go_wp2_with fail
        go_ret
        rw [HZ2.out]
        exact ⟨HK1.out, by rw [← unzig_walk V hV2]; rfl, HR1.out⟩
      · have hxi : (128 : Int) ≤ (x : Int) := by omega
        have HZ2 := Lib.hid (show numP V (s + 7) r = Z by
          rw [← HI.out.2.1]
          show _ = (if x < 128 then some (unzig (U ||| ((x % 128) * 2 ^ (7 * k) % 18446744073709551616)), r) else numP (U ||| ((x % 128) * 2 ^ (7 * k) % 18446744073709551616)) (7 * k + 7) r)
          rw [if_neg h128, ← HY.out, ← HS.out, ← HT.out, ← HV.out])
        have HC := Lib.hid (show ∀ x ∈ r, x < 256 from fun z hz => HI.out.2.2 z (List.mem_cons_of_mem _ hz))
        have HL2 := Lib.hid (show k + 1 + r.length = n0 by have := HI.out.1; simp only [List.length_cons] at this; omega)
        clear HI
        go_wp2_with fail
        go_roundw
        case rel => exact ⟨V, k + 1, r, rfl, by rw [show ((s : Int) + 7) = ((7 * (k + 1) : Nat) : Int) by have := HS.out; omega], hV2, Lib.hid ⟨HL2.out, by rw [← HZ2.out, HS.out]; rfl, HC.out⟩, HK'.out, HR1, HK1⟩
        case measure =>
          have := HK'.out
          have := HS.out
          simp only [intOf]
          omega
def entVal (e : Int × ByteArray) : Value := .agg #[.int .i64 e.1, .string e.2]
set_option maxRecDepth 100000 in
theorem entry_any (q : Nat) (l : List Nat) (w : World) (h : Rd B w q l) (_hqB : q < B) (hB : B ≤ w.heap.size) (hl : ∀ x ∈ l, x < 256) (hb : l.length ≤ 100000) :
    Calls Try.prog 37 #[.pointer (some ⟨q, 0, none⟩)] w (RdPost B q w ((entP l).map fun p => (entVal p.1, p.2))) := by
  have h0 : Rd B (w.alloc (.cells #[.int .i64 0, .string ⟨#[]⟩] 54)) q l := h.bel ((Below.refl _ _).alloc (Nat.le_refl _) _)
  have C := number_any q l _ h0 hl hb
  have k0 : KQ q w (w.alloc (.cells #[.int .i64 0, .string ⟨#[]⟩] 54)) := (KQ.refl q w).alloc h.lt _
  have b0 : Bk (w.alloc (.cells #[.int .i64 0, .string ⟨#[]⟩] 54)) w.heap.size 54 #[.int .i64 0, .string ⟨#[]⟩] := heap_alloc_new w _
  have hq := h.lt
  unfold entP
  cases hP : numP 0 0 l with
  | none =>
    rw [hP] at C
    have C1 := Lib.hid C
    have K0 := Lib.hid k0
    clear C h h0 hP k0 b0
    go_enter Try.func37, Try.ntmps37
    go_wp2_with fail
    refine C1.out.mono ?_
    rintro e w1 ⟨hk1, rfl⟩
    exact ⟨rfl, K0.out.trans hk1, rfl⟩
  | some p =>
    obtain ⟨z, r⟩ := p
    have HL2 := Lib.hid (show ∀ x ∈ r, x < 256 from fun x hx => hl x (numP_sub _ _ _ _ _ hP x hx))
    rw [hP] at C
    have C1 := Lib.hid C
    have K0 := Lib.hid k0
    have B0 := Lib.hid b0
    show Calls _ _ _ _ (RdPost B q w (((txtW r).map fun p => ((z, p.1), p.2)).map fun p => (entVal p.1, p.2)))
    clear C h h0 hP k0 b0
    go_enter Try.func37, Try.ntmps37
    go_wp2_with fail
    refine C1.out.mono ?_
    rintro e w1 ⟨hk1, rfl, hr1⟩
    have K1 := Lib.hid (K0.out.trans hk1)
    have B1 := Lib.hid (bk_kept B0.out (by omega) hk1.kept)
    have C := byte_any q r w1 hr1
    clear hk1 hr1 C1 B0 K0
    rcases r with _ | ⟨x, r⟩
    · have C2 := Lib.hid C
      clear C
      go_wp2_with fail
      refine C2.out.mono ?_
      rintro e w2 ⟨hk2, rfl⟩
      exact ⟨rfl, K1.out.trans hk2, rfl⟩
    · have C2 := Lib.hid C
      have hx := HL2.out x (by simp)
      clear C
      go_wp2_with fail
      refine C2.out.mono ?_
      rintro e w2 ⟨hk2, rfl, hr2⟩
      have K2 := Lib.hid (K1.out.trans hk2)
      have B2 := Lib.hid (bk_kept B1.out (by omega) hk2.kept)
      by_cases hlen : x ≤ r.length
      · have C3 := Lib.hid (take_ok q x r w2 hr2 hlen)
        have HZ := Lib.hid (show txtW (x :: r) = some (txt (r.take x), r.drop x) by show (if x ≤ r.length then _ else none) = _; rw [if_pos hlen])
        have HX := Lib.hid (show x = (r.take x).length by rw [List.length_take]; omega)
        have HC := Lib.hid (fun w3 A c hs => run_txt w3 A x c (r.take x) HX.out hs (fun y hy => HL2.out y (List.mem_cons_of_mem _ (List.mem_of_mem_take hy))))
        obtain ⟨T, hT⟩ : ∃ T, T = txt (r.take x) := ⟨_, rfl⟩
        rw [← hT] at HC HZ
        clear hr2 hk2 B1 K1 C2 hT
        go_wp2_with fail
        refine C3.out.mono ?_
        rintro e w3 ⟨⟨A, c, rfl, hc, hs⟩, hr3, hk3⟩
        have K3 := Lib.hid (K2.out.trans hk3)
        have b3 := bk_kept B2.out (by omega) hk3.kept
        have hcv := HC.out w3 A c hs
        have HR3 := Lib.hid hr3
        have u0 := b3.cell 0
        have u1 := b3.cell 1
        have z0 := b3.frozen 0
        have z1 := b3.frozen 1
        simp only [List.getElem?_toArray, List.getElem?_cons_zero, List.getElem?_cons_succ] at u0 u1
        have SET : ∀ wf, (w3.setCell ⟨w.heap.size, 0, none⟩ (.int .i64 z)).setCell ⟨w.heap.size, 1, none⟩ (.string T) = wf → KQ q w wf ∧ Rd B wf q (r.drop x) ∧ Bk wf w.heap.size 54 #[.int .i64 z, .string T] := by
          intro wf hw
          subst hw
          have k1 : Kept1 w.heap.size w3 ((w3.setCell ⟨w.heap.size, 0, none⟩ (.int .i64 z)).setCell ⟨w.heap.size, 1, none⟩ (.string T)) := (Kept1.set _ _ _ _).trans (Kept1.set _ _ _ _)
          refine ⟨⟨(K3.out.bel.setCell (p := ⟨w.heap.size, 0, none⟩) (by show q ≤ w.heap.size; omega) _).setCell (p := ⟨w.heap.size, 1, none⟩) (by show q ≤ w.heap.size; omega) _, ⟨Nat.le_trans K3.out.kept.size k1.size, fun b hlt hn => ?_⟩⟩, hr3.other k1 (by omega) (Or.inr hB), (b3.put 0 _).put 1 _⟩
          rw [k1.block b (Nat.lt_of_lt_of_le hlt K3.out.kept.size) (by omega)]
          exact K3.out.kept.block b hlt hn
        have HSET := Lib.hid SET
        clear hs hr3 hk3 b3 B2 K2 SET
        go_wp2_with fail
        generalize hwf : (w3.setCell ⟨w.heap.size, 0, none⟩ (.int .i64 z)).setCell ⟨w.heap.size, 1, none⟩ (.string T) = wf
        obtain ⟨g1, g2, g3⟩ := HSET.out wf hwf
        clear hwf
        have y0 : wf.cell? ⟨w.heap.size, 0, none⟩ = some (.int .i64 z) := g3.cell 0
        have y1 : wf.cell? ⟨w.heap.size, 1, none⟩ = some (.string T) := g3.cell 1
        refine bodyPost_ret (v := .agg #[.int .i64 z, .string T]) (by simp [results, Try.results37, go_sem, y0, y1]) rfl ⟨g1, ?_⟩
        rw [HZ.out]
        exact ⟨rfl, g2⟩
      · have C3 := Lib.hid (take_no q x r w2 hr2 (by omega))
        have HZ := Lib.hid (show txtW (x :: r) = none by show (if x ≤ r.length then _ else none) = _; rw [if_neg hlen])
        clear hr2 hk2 B1 K1 C2
        go_wp2_with fail
        refine C3.out.mono ?_
        rintro e w3 ⟨rfl, rfl⟩
        refine ⟨rfl, K2.out, ?_⟩
        rw [HZ.out]
        rfl
end Go.Proofs.Ytgifbjomaenlnaa
