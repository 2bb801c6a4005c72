/- A journal at rest: what its calls answer. Conditions: the journal, its disk and the blocks lie in memory; the disk is not armed. -/
import Derived.Test.YtmgbmnbjionapaaJRChk
import Derived.Test.YtmgbmnbjionapaaJAwake
import Derived.Test.YtmgbmnbjionapaaJRec
namespace Go.Proofs.Ytmgbmnbjionapaa
open Go.RowKit

/-- A disk on which a journal rests: nothing waits, the head is the journal's with a count of 0. -/
structure Jst (D : DM) (b s seq : Nat) : Prop where
  arm : D.arm = false
  wts : D.wts = []
  head : D.rd b = headN b s 0 seq
theorem fits_b {T b s : Nat} (hf : Fits T b s) : b < T ∧ s < 256 := by unfold Fits at hf; omega
theorem fits_T {T b s : Nat} (hf : Fits T b s) : b < T ∧ s ≤ 60 ∧ b + 2 < T := by unfold Fits at hf; omega
theorem commit_all (q p b s T seq : Nat) (S : Nat → Prop) (D : DM) (A : Option Addr) (n c : Nat) (bs : List BW) (w : World) (hJ : Bk w q 101 (JrC p b s)) (hq : ¬ S q) (hD : Dsk w S p T D) (hj : Jst D b s seq) (hn : n = bs.length) (hB : BsAt w A bs) (hW : (∀ x ∈ bs, ¬ x.bad T) → WsAt w S A (bs.map BW.nat)) (hf : Fits T b s) (hseq : seq + 1 < 18446744073709551616) :
    Calls Try.prog 37 #[.pointer (some ⟨q, 0, none⟩), .slice A n c] w fun e w' => e = .returned (.int .i64 (chkN T b s bs : Int)) ∧ ∃ S' D' seq', Dsk w' S' p T D' ∧ Kp S S' w w' ∧ Jst D' b s seq' ∧
      (chkN T b s bs ≠ 0 → D' = D ∧ seq' = seq) ∧ (chkN T b s bs = 0 → seq' = (if n = 0 then seq else seq + 1) ∧ ∀ i, i < T → i < b ∨ b + s + 2 ≤ i → D'.rd i = lastD (bs.map BW.nat) i (D.rd i)) := by
  by_cases h : chkN T b s bs = 0
  · by_cases h0 : n = 0
    · have hb : bs = [] := List.eq_nil_of_length_eq_zero (by omega)
      subst h0
      refine (commit_none q p b s T S D A c w hJ hD hf).mono ?_
      rintro e w' ⟨rfl, hb'⟩
      exact ⟨by rw [h]; rfl, S, D, seq, hD.bel hb', Kp.of_bel hb' S, hj, fun hh => absurd h hh, fun _ => ⟨by rw [if_pos rfl], fun i _ _ => by rw [hb]; rfl⟩⟩
    · obtain ⟨hl, hok, _⟩ := chk_zero h
      refine (commit_ok q p b s T seq S D A n c bs w hJ hq hD hj.arm hj.wts hn hB (hW hok) hf h (by omega) hj.head hseq).mono ?_
      rintro e w' ⟨rfl, S', hD', hK'⟩
      exact ⟨by rw [h]; rfl, S', _, seq + 1, hD', hK', ⟨hj.arm, rfl, cmD_head hD.ok hf (by rw [List.length_map]; exact hl) (nat_ok hok)⟩, fun hh => absurd h hh,
        fun _ => ⟨by rw [if_neg h0], fun i hi ho => cmD_rd hD.ok hj.wts hf (by rw [List.length_map]; exact hl) (nat_ok hok) i hi ho⟩⟩
  · refine (commit_no q p b s T S D A n c bs w hJ hD hn hB hf h).mono ?_
    rintro e w' ⟨rfl, hb'⟩
    exact ⟨rfl, S, D, seq, hD.bel hb', Kp.of_bel hb' S, hj, fun _ => ⟨rfl, rfl⟩, fun hh => absurd hh h⟩
theorem seq_all (q p T b s seq : Nat) (S : Nat → Prop) (D : DM) (w : World) (hJ : Bk w q 101 (JrC p b s)) (hD : Dsk w S p T D) (hj : Jst D b s seq) (hf : Fits T b s) (hseq : seq < 18446744073709551616) : Calls Try.prog 34 #[.pointer (some ⟨q, 0, none⟩)] w fun e w' => e = .returned (.int .u64 (seq : Int)) ∧ Below w.heap.size w w' := by
  obtain ⟨h1, h2⟩ := fits_b hf
  exact seq_any q p T b s S D w hJ hD h1 h2 (by rw [hj.head]; exact head_lt b s 0 seq h2 (by omega)) 0 seq (by rw [hj.head]; rfl) (by rw [hj.head]; exact head_seq b s 0 seq hseq) (Nat.zero_le _) (by rw [hj.head]; exact head_take ..)
theorem open_all (p T b s seq : Nat) (S : Nat → Prop) (D : DM) (w : World) (hD : Dsk w S p T D) (hj : Jst D b s seq) (hf : Fits T b s) (hseq : seq < 18446744073709551616) : Calls Try.prog 30 #[.pointer (some ⟨p, 0, none⟩), .int .i64 (b : Int), .int .i64 (s : Int)] w fun e w' => e = .returned (.tuple #[.pointer (some ⟨w.heap.size, 0, none⟩), .int .i64 0, .int .i64 0]) ∧ Bk w' w.heap.size 101 (JrC p b s) ∧ Below w.heap.size w w' := by
  obtain ⟨h1, h2⟩ := fits_b hf
  exact open_zero p T b s S D w hD hf (by rw [hj.head]; exact head_lt b s 0 seq h2 (by omega)) seq (by rw [hj.head]; rfl) (by rw [hj.head]; exact head_seq b s 0 seq hseq) (by rw [hj.head]; exact head_take ..)
theorem recover_all (p T b s seq : Nat) (S : Nat → Prop) (D : DM) (w : World) (hD : Dsk w S p T D) (hj : Jst D b s seq) (hf : Fits T b s) (hseq : seq < 18446744073709551616) : Calls Try.prog 33 #[.pointer (some ⟨p, 0, none⟩), .int .i64 (b : Int), .int .i64 (s : Int)] w fun e w' => ∃ q, e = .returned (.tuple #[.pointer (some ⟨q, 0, none⟩), .int .i64 0, .int .i64 0]) ∧ w.heap.size ≤ q ∧ Bk w' q 101 (JrC p b s) ∧ Below w.heap.size w w' := by
  obtain ⟨h1, h2⟩ := fits_b hf
  exact recover_zero p T b s S D w hD hf (by rw [hj.head]; exact head_lt b s 0 seq h2 (by omega)) seq (by rw [hj.head]; rfl) (by rw [hj.head]; exact head_seq b s 0 seq hseq) (by rw [hj.head]; exact head_take ..)
/-- A disk just formatted. -/
def fmD (T b s : Nat) : DM := (DM.new T).land [(b, headN b s 0 0)]
theorem fm_jst {T b s : Nat} (hf : Fits T b s) (hT : T ≤ 2048) : Jst (fmD T b s) b s 0 := by
  obtain ⟨h1, _, _⟩ := fits_T hf
  exact ⟨rfl, rfl, land_rd (DM.new T) T b _ (DM.Ok.new T (by omega) hT) h1 (headN_length ..)⟩
theorem fm_rd {T b s : Nat} (hf : Fits T b s) (hT : T ≤ 2048) (i : Nat) (hi : i < T) (ho : i ≠ b) : (fmD T b s).rd i = List.replicate 256 0 := by
  obtain ⟨h1, _, _⟩ := fits_T hf
  unfold fmD
  rw [land_rds _ i (DM.Ok.new T (by omega) hT) rfl hi (by simp [h1, headN_length]), last_out [(b, _)] i _ (by simp [ho]), new_rd T i hi]
theorem putB_lt (im : List Nat) (a : Nat) (l : List Nat) (h : ∀ x ∈ im, x < 256) (h2 : ∀ x ∈ l, x < 256) (hl : a + l.length ≤ im.length) : ∀ x ∈ putB im a l, x < 256 := by
  intro x hx
  obtain ⟨j, hj⟩ := List.mem_iff_getElem?.1 hx
  rw [putB_get im a l hl j] at hj
  split at hj
  · exact h x (List.mem_of_getElem? hj)
  · split at hj
    · exact h2 x (List.mem_of_getElem? hj)
    · exact h x (List.mem_of_getElem? hj)
theorem fm_lt {T b s : Nat} (hf : Fits T b s) : ∀ x ∈ (fmD T b s).img, x < 256 := by
  obtain ⟨h1, h2, _⟩ := fits_T hf
  show ∀ x ∈ landP 8 (List.replicate (T * 256) 0) (b, headN b s 0 0), x < 256
  unfold landP
  refine putB_lt _ _ _ (fun x hx => by rw [List.eq_of_mem_replicate hx]; decide) (fun x hx => head_lt b s 0 0 (by omega) (by omega) x (List.mem_of_mem_take hx)) ?_
  rw [List.length_take, headN_length, List.length_replicate]
  have := Nat.mul_le_mul_right 256 (show b + 1 ≤ T by omega)
  omega
end Go.Proofs.Ytmgbmnbjionapaa
