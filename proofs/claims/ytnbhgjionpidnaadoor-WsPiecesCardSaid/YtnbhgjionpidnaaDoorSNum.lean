/- A number of so many bytes, the higher first; the length of a frame. Condition: the bytes lie in memory. -/
import Derived.Test.YtnbhgjionpidnaaDoorSRd
import Derived.Laws.BitsAllLaws
import Derived.LoopTactic
import Derived.Deep.CutBlock
import Derived.Deep.DeepCutAuto
namespace Go.Proofs.YtnbhgjionpidnaaDoor
open Go.RowKit
variable {B : Nat}

/-- The number that these bytes are, the higher first. -/
def beN (l : List Nat) : Nat := l.foldl (fun n x => n * 256 + x) 0
theorem beN_snoc (l : List Nat) (x : Nat) : beN (l ++ [x]) = beN l * 256 + x := by unfold beN; rw [List.foldl_append]; rfl
theorem beN_lt : ∀ (k : Nat) (l : List Nat), l.length = k → (∀ x ∈ l, x < 256) → beN l < 256 ^ k
  | 0, l, hk, _ => by
    have : l = [] := List.eq_nil_of_length_eq_zero hk
    subst this; decide
  | k + 1, l, hk, h => by
    have hne : l ≠ [] := by intro e; subst e; simp at hk
    rw [← List.dropLast_concat_getLast hne, beN_snoc]
    have h1 := beN_lt k l.dropLast (by rw [List.length_dropLast]; omega) (fun x hx => h x ((List.dropLast_sublist l).subset hx))
    have h2 := h _ (List.getLast_mem hne)
    rw [Nat.pow_succ]
    omega
theorem or_low (v x : Nat) (hx : x < 256) : (v * 256) ||| x = v * 256 + x := by
  have := Nat.shiftLeft_add_eq_or_of_lt (i := 8) (b := x) (by omega : x < 2 ^ 8) v
  rw [Nat.shiftLeft_eq] at this
  exact this.symm
def wantP (e : Ending) : Prop := e = .panicked wantE
set_option maxRecDepth 100000 in
set_option maxHeartbeats 1000000 in
theorem number_ok (q n : Nat) (l : List Nat) (w : World) (h : Rd B w q l) (hn : n ≤ l.length) (h8 : n ≤ 8) (hl : ∀ x ∈ l, x < 256) :
    Calls Tryd.prog 55 #[.pointer (some ⟨q, 0, none⟩), .int .i64 n] w fun e w' => e = .returned (.int .u64 (beN (l.take n) : Nat)) ∧ Rd B w' q (l.drop n) ∧ KQ q w w' := by
  have HT := Lib.hid (take_ok q n l w h hn)
  have HL := Lib.hid (show ∀ x ∈ l.take n, x < 256 from fun x hx => hl x (List.mem_of_mem_take hx))
  have HN := Lib.hid (show (l.take n).length = n by rw [List.length_take]; omega)
  obtain ⟨t, ht⟩ : ∃ t, t = l.take n := ⟨_, rfl⟩
  rw [← ht] at HT HL HN ⊢
  clear ht h hl hn
  go_enter Tryd.func55, Tryd.ntmps55
  go_wp2_with fail
  refine HT.out.mono ?_
  rintro e w1 ⟨⟨A, c, rfl, hc, hs⟩, hr, hk⟩
  have HS := Lib.hid hs
  have HR := Lib.hid hr
  have HK := Lib.hid hk
  clear hs hr hk HT
  go_wp2_with fail
  go_loopw [5, 12] (fun s5 s wr => ∃ i v : Nat, i ≤ n ∧ s = .int .i64 i ∧ s5 = .int .u64 v ∧ wr = w1 ∧ Hid (v = beN (t.take i))) (fun _ s _ => n - (intOf s).toNat)
  case atStart => exact ⟨0, 0, Nat.zero_le _, rfl, rfl, rfl, Lib.hid rfl⟩
  case round =>
    obtain ⟨i, v, hi, rfl, rfl, rfl, hV⟩ := hrel
    by_cases hlt : i < n
    · have hit : i < t.length := by have := HN.out; omega
      obtain ⟨b, off, rfl, _, _, hcell⟩ := HS.out.pick (k := i) (by rw [u8s_length]; exact hit)
      obtain ⟨x, hx⟩ : ∃ x, x = t[i] := ⟨_, rfl⟩
      have c0 : wr.cell? ⟨b, off + i, none⟩ = some (.int .u8 (x : Int)) := by rw [hcell, u8s_get _ _ hit, hx]
      have hx8 : x < 256 := by rw [hx]; exact HL.out _ (List.getElem_mem hit)
      have hv := beN_lt i (t.take i) (by rw [List.length_take]; omega) (fun y hy => HL.out y (List.mem_of_mem_take hy))
      rw [← hV.out] at hv
      have hv2 : v < 72057594037927936 := Nat.lt_of_lt_of_le hv (show 256 ^ i ≤ 256 ^ 7 from Nat.pow_le_pow_right (by decide) (by omega))
      have NX := Lib.hid (show v * 256 + x = beN (t.take (i + 1)) by rw [List.take_succ_eq_append_getElem hit, beN_snoc, ← hV.out, hx])
      have O1 := Lib.hid (show bits .or .u64 ((v : Int) * 256) (x : Int) = ((v * 256 + x : Nat) : Int) by
        rw [show (v : Int) * 256 = ((v * 256 : Nat) : Int) by omega, u64_or_nat _ _ (by omega) (by omega), or_low v x hx8])
      have E1 := Lib.hid (show ((i : Int) + 1) = ((i + 1 : Nat) : Int) by omega)
      have MM := Lib.hid (show n - (intOf (.int .i64 ((i + 1 : Nat) : Int))).toNat < n - (intOf (.int .i64 (i : Int))).toNat by simp only [intOf]; omega)
      have i1 : (0 : Int) ≤ (i : Int) := by omega
      have i2 : (i : Int) < (n : Int) := by omega
      clear hcell hx hV hv
      go_wp2_with fail
      rw [E1.out, O1.out]
      exact ⟨⟨i + 1, v * 256 + x, by omega, rfl, rfl, trivial, NX⟩, MM.out⟩
    · have hin : i = n := by omega
      subst hin
      have RES := Lib.hid (show v = beN t by rw [hV.out, List.take_of_length_le (by have := HN.out; omega)])
      have i0 : ¬ (i : Int) < (i : Int) := by omega
      clear hV
      go_wp2_with fail
      go_ret
      exact ⟨by rw [← RES.out]; rfl, HR.out, HK.out⟩
theorem number_no (q n : Nat) (l : List Nat) (w : World) (h : Rd B w q l) (hn : l.length < n) :
    Calls Tryd.prog 55 #[.pointer (some ⟨q, 0, none⟩), .int .i64 n] w fun e w' => e = .panicked wantE ∧ w = w' := by
  have HT := Lib.hid (take_no q n l w h hn)
  clear h hn
  go_enter Tryd.func55, Tryd.ntmps55
  go_wp2_with fail
  refine HT.out.mono ?_
  rintro e w1 ⟨rfl, rfl⟩
  go_wp2_with fail
  exact ⟨rfl, rfl, rfl⟩
/-- What a reader comes to: a value and what is left, or a code (0: bytes are wanting). -/
inductive Rs (α : Type) where
  | ok (a : α) (l : List Nat)
  | no (code : Nat)
/-- The length of a frame, behind its first two bytes. -/
def lngN (short : Nat) (l : List Nat) : Rs Nat :=
  if short = 126 then (if l.length < 2 then .no 0 else if beN (l.take 2) < 126 then .no 1002 else .ok (beN (l.take 2)) (l.drop 2))
  else if short = 127 then (if l.length < 8 then .no 0 else if beN (l.take 8) ≤ 65535 ∨ 9223372036854775808 ≤ beN (l.take 8) then .no 1002 else .no 1009)
  else .ok short l
/-- The panic that a code is told by. -/
def giveE (code : Nat) : List PanicEntry := if code = 0 then wantE else [{ v := .iface 78 (.int .i64 (code : Int)), recovered := false }]
def LenPost (q : Nat) (w : World) (r : Rs Nat) (e : Ending) (w' : World) : Prop := match r with
  | .ok a l => e = .returned (.int .i64 (a : Nat)) ∧ Rd B w' q l ∧ KQ q w w'
  | .no c => e = .panicked (giveE c) ∧ KQ q w w'
set_option maxRecDepth 100000 in
set_option maxHeartbeats 1000000 in
theorem length_any (q short : Nat) (hs : short < 128) (l : List Nat) (w : World) (h : Rd B w q l) (hl : ∀ x ∈ l, x < 256) :
    Calls Tryd.prog 52 #[.pointer (some ⟨q, 0, none⟩), .int .u8 short] w (LenPost (B := B) q w (lngN short l)) := by
  obtain ⟨r, hr⟩ : ∃ r, r = lngN short l := ⟨_, rfl⟩
  rw [← hr]
  unfold lngN at hr
  by_cases h126 : short = 126
  · subst h126
    rw [if_pos rfl] at hr
    by_cases h2 : l.length < 2
    · rw [if_pos h2] at hr
      subst hr
      have C := Lib.hid (number_no q 2 l w h h2)
      clear h hl h2 hs
      go_enter Tryd.func52, Tryd.ntmps52
      go_wp2_with fail
      refine C.out.mono ?_
      rintro e w1 ⟨rfl, rfl⟩
      go_wp2_with fail
      exact ⟨rfl, rfl, KQ.refl _ _⟩
    · rw [if_neg h2] at hr
      have C := Lib.hid (number_ok q 2 l w h (by omega) (by decide) hl)
      have hlt := beN_lt 2 (l.take 2) (by rw [List.length_take]; omega) (fun x hx => hl x (List.mem_of_mem_take hx))
      obtain ⟨v, hv⟩ : ∃ v, v = beN (l.take 2) := ⟨_, rfl⟩
      rw [← hv] at C hr hlt
      by_cases hv2 : v < 126
      · rw [if_pos hv2] at hr
        subst hr
        have hv3 : (v : Int) < 126 := by omega
        clear h hl h2 hs hv
        go_enter Tryd.func52, Tryd.ntmps52
        go_wp2_with fail
        refine C.out.mono ?_
        rintro e w1 ⟨rfl, _, hk⟩
        have HK := Lib.hid hk
        clear hk
        go_wp2_with fail
        exact ⟨rfl, rfl, HK.out⟩
      · rw [if_neg hv2] at hr
        subst hr
        have hv3 : ¬ (v : Int) < 126 := by omega
        have hv4 : v < 65536 := hlt
        clear h hl h2 hs hv hlt
        go_enter Tryd.func52, Tryd.ntmps52
        go_wp2_with fail
        refine C.out.mono ?_
        rintro e w1 ⟨rfl, hrd, hk⟩
        have HK := Lib.hid hk
        have HR := Lib.hid hrd
        clear hk hrd
        go_wp2_with fail
        go_ret
        exact ⟨rfl, HR.out, HK.out⟩
  · rw [if_neg h126] at hr
    have g126 : ((short : Int) == 126) = false := by simp; omega
    by_cases h127 : short = 127
    · subst h127
      rw [if_pos rfl] at hr
      by_cases h2 : l.length < 8
      · rw [if_pos h2] at hr
        subst hr
        have C := Lib.hid (number_no q 8 l w h h2)
        clear h hl h2 hs h126
        go_enter Tryd.func52, Tryd.ntmps52
        go_wp2_with fail
        refine C.out.mono ?_
        rintro e w1 ⟨rfl, rfl⟩
        go_wp2_with fail
        exact ⟨rfl, rfl, KQ.refl _ _⟩
      · rw [if_neg h2] at hr
        have C := Lib.hid (number_ok q 8 l w h (by omega) (by decide) hl)
        have hlt := beN_lt 8 (l.take 8) (by rw [List.length_take]; omega) (fun x hx => hl x (List.mem_of_mem_take hx))
        obtain ⟨v, hv⟩ : ∃ v, v = beN (l.take 8) := ⟨_, rfl⟩
        rw [← hv] at C hr hlt
        have hv4 : v < 18446744073709551616 := hlt
        by_cases hv2 : v ≤ 65535
        · rw [if_pos (Or.inl hv2)] at hr
          subst hr
          have hv3 : (v : Int) ≤ 65535 := by omega
          clear h hl h2 hs hv h126 hlt
          go_enter Tryd.func52, Tryd.ntmps52
          go_wp2_with fail
          refine C.out.mono ?_
          rintro e w1 ⟨rfl, _, hk⟩
          have HK := Lib.hid hk
          clear hk
          go_wp2_with fail
          exact ⟨rfl, rfl, HK.out⟩
        · have hv3 : ¬ (v : Int) ≤ 65535 := by omega
          by_cases hv5 : 9223372036854775808 ≤ v
          · rw [if_pos (Or.inr hv5)] at hr
            subst hr
            have hd : (v : Int) / 9223372036854775808 = 1 := by omega
            clear h hl h2 hs hv h126 hlt
            go_enter Tryd.func52, Tryd.ntmps52
            go_wp2_with fail
            refine C.out.mono ?_
            rintro e w1 ⟨rfl, _, hk⟩
            have HK := Lib.hid hk
            clear hk
            go_wp2_with fail
            exact ⟨rfl, rfl, HK.out⟩
          · rw [if_neg (by omega)] at hr
            subst hr
            have hd : (v : Int) / 9223372036854775808 = 0 := by omega
            clear h hl h2 hs hv h126 hlt
            go_enter Tryd.func52, Tryd.ntmps52
            go_wp2_with fail
            refine C.out.mono ?_
            rintro e w1 ⟨rfl, _, hk⟩
            have HK := Lib.hid hk
            clear hk
            go_wp2_with fail
            exact ⟨rfl, rfl, HK.out⟩
    · rw [if_neg h127] at hr
      subst hr
      have g127 : ((short : Int) == 127) = false := by simp; omega
      have HR := Lib.hid h
      clear h hl h126 h127
      go_enter Tryd.func52, Tryd.ntmps52
      go_wp2_with fail
      go_ret
      exact ⟨rfl, HR.out, KQ.refl _ _⟩
end Go.Proofs.YtnbhgjionpidnaaDoor
