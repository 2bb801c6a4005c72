/- A disk's small functions, as a client sees them; New and Load. Conditions: the disk lies in memory. -/
import Derived.Test.YtmgbmnbjionapaaDiskF
namespace Go.Proofs.Ytmgbmnbjionapaa
open Go.RowKit

section
variable {w w' : World} {S : Nat → Prop} {p T : Nat} {D : DM}
/-- What a disk reads. -/
def DM.rd (D : DM) (n : Nat) : List Nat := rdD D.img D.wts n
theorem rd_length {D : DM} {T : Nat} (h : D.Ok T) (n : Nat) (hn : n < T) : (D.rd n).length = 256 := by
  unfold DM.rd rdD
  have hlast : ∀ k, k ≤ D.wts.length → ∀ j, lastW D.wts n k = some j → j < D.wts.length := by
    intro k
    induction k with
    | zero => intro _ j hj; simp [lastW] at hj
    | succ k ih =>
      intro hk j hj
      simp only [lastW] at hj
      split at hj
      · injection hj with hj; omega
      · exact ih (by omega) j hj
  split
  · rename_i k hk
    have := hlast _ (Nat.le_refl _) k hk
    rw [List.getD_eq_getElem?_getD, List.getElem?_eq_getElem this]
    exact h.full _ (List.getElem_mem _)
  · rw [List.length_take, List.length_drop, h.len]
    omega
theorem Dsk.blocks (h : Dsk w S p T D) : Calls Try.prog 21 #[.pointer (some ⟨p, 0, none⟩)] w fun e w' => e = .returned (.int .i64 (T : Int)) ∧ w = w' := by
  obtain ⟨gi, v, hD, _, _⟩ := h.ex
  exact blocks_any hD T h.ok.len h.ok.top
theorem Dsk.pending (h : Dsk w S p T D) : Calls Try.prog 22 #[.pointer (some ⟨p, 0, none⟩)] w fun e w' => e = .returned (.int .i64 (D.wts.length : Int)) ∧ w = w' := by
  obtain ⟨gi, v, hD, _, _⟩ := h.ex
  exact pending_any hD
theorem Dsk.image (h : Dsk w S p T D) : Calls Try.prog 23 #[.pointer (some ⟨p, 0, none⟩)] w fun e w' => ∃ A' c', e = .returned (.slice A' (T * 256) c') ∧ T * 256 ≤ c' ∧ w'.ownsRow w.heap.size 5 1 (.slice A' (T * 256) c') (T * 256) (u8s D.img) ∧ Below w.heap.size w w' := by
  obtain ⟨gi, v, hD, _, _⟩ := h.ex
  have := image_any hD (by rw [h.ok.len]; have := h.ok.top; omega)
  rw [h.ok.len] at this
  exact this
theorem Dsk.arm (h : Dsk w S p T D) (n : Int) (hn : n < 9223372036854775808) : Calls Try.prog 26 #[.pointer (some ⟨p, 0, none⟩), .int .i64 n] w fun e w' => e = .returned (.tuple #[]) ∧ Dsk w' S p T (D.armed n) ∧ Kp S S w w' := by
  obtain ⟨gi, v, hD, h1, h2⟩ := h.ex
  refine (arm_any hD n).mono ?_
  rintro e w2 ⟨rfl, hD2, hg⟩
  exact ⟨rfl, ⟨⟨gi, v, hD2, h1, h2⟩, h.self, h.ok.armed n hn, fun i hi => Nat.lt_of_lt_of_le (h.inn i hi) hg.size⟩, Kp.of_grown hg h.self⟩
theorem Dsk.read_no (h : Dsk w S p T D) (n : Int) (hn : ¬ (0 ≤ n ∧ n < (T : Int))) : Calls Try.prog 24 #[.pointer (some ⟨p, 0, none⟩), .int .i64 n] w fun e w' => e = .returned (.tuple #[.slice none 0 0, .int .i64 1]) ∧ w = w' := by
  obtain ⟨gi, v, hD, _, _⟩ := h.ex
  exact Go.Proofs.Ytmgbmnbjionapaa.read_no hD T h.ok.len h.ok.top n hn
theorem Dsk.read_ok (h : Dsk w S p T D) (n : Nat) (hn : n < T) : Calls Try.prog 24 #[.pointer (some ⟨p, 0, none⟩), .int .i64 (n : Int)] w fun e w' => ∃ A' c', e = .returned (.tuple #[.slice A' 256 c', .int .i64 0]) ∧ 256 ≤ c' ∧ w'.ownsRow w.heap.size 5 1 (.slice A' 256 c') 256 (u8s (D.rd n)) ∧ Below w.heap.size w w' := by
  obtain ⟨gi, v, hD, _, _⟩ := h.ex
  exact Go.Proofs.Ytmgbmnbjionapaa.read_ok hD T h.ok.len h.ok.top n hn h.ok.few
/-- A disk of whatever image, just made. -/
def DM.made (img : List Nat) : DM := ⟨img, [], false, 0⟩
theorem Dsk.of_new {B g gi : Nat} {img : List Nat} (hD : Dk w B g gi img (.slice none 0 0) [] false 0) (T : Nat) (hl : img.length = T * 256) (h1 : 1 ≤ T) (h2 : T ≤ 2048) : ∃ S : Nat → Prop, Dsk w S g T (DM.made img) ∧ ∀ i, S i → B ≤ i := by
  have h0 : Dk w 0 g gi img (.slice none 0 0) [] false 0 := ⟨hD.box, hD.img, ⟨rfl, .inl ⟨rfl, rfl⟩⟩, hD.ne, Nat.zero_le _, Nat.zero_le _, hD.far, hD.far', hD.full⟩
  have hok : (DM.made img).Ok T := ⟨hl, h1, h2, Nat.zero_le _, fun x hx => (List.not_mem_nil hx).elim, fun x hx => (List.not_mem_nil hx).elim, Int.le_refl _, by show (0 : Int) < 9223372036854775808; omega⟩
  refine ⟨fun i => i = g ∨ i = gi, ⟨⟨gi, .slice none 0 0, h0, .inr rfl, fun b hb => by cases hb⟩, .inl rfl, hok, ?_⟩, ?_⟩
  · rintro i (rfl | rfl)
    · exact hD.box.lt
    · exact hD.img.lt
  · rintro i (rfl | rfl)
    · exact hD.lo
    · exact hD.lo'
theorem new_ok (T : Nat) (h1 : 1 ≤ T) (h2 : T ≤ 2048) (w : World) :
    Calls Try.prog 25 #[.int .i64 (T : Int)] w fun e w' => ∃ p S, e = .returned (.tuple #[.pointer (some ⟨p, 0, none⟩), .int .i64 0]) ∧ Dsk w' S p T (DM.new T) ∧ (∀ i, S i → w.heap.size ≤ i) ∧ Below w.heap.size w w' := by
  refine (dnew_ok T h1 h2 w).mono ?_
  rintro e w2 ⟨g, gi, rfl, hD, hb⟩
  obtain ⟨S, hS, hB⟩ := Dsk.of_new hD T (List.length_replicate ..) h1 h2
  exact ⟨g, S, rfl, hS, hB, hb⟩
set_option maxRecDepth 100000 in
set_option maxHeartbeats 1000000 in
theorem load_no (A : Option Addr) (n c : Nat) (hn : n ≤ 140737488355328) (hb : ¬ (n % 256 = 0 ∧ 1 ≤ n / 256 ∧ n / 256 ≤ 2048)) (w : World) :
    Calls Try.prog 20 #[.slice A n c] w fun e w' => e = .returned (.tuple #[.pointer none, .int .i64 1]) ∧ Below w.heap.size w w' := by
  by_cases h1 : n % 256 = 0
  · have t1 : ((n : Int) % 256 != 0) = false := by simp; omega
    obtain ⟨q, hq⟩ : ∃ q, q = n / 256 := ⟨_, rfl⟩
    have t2 : (n : Int) / 256 = (q : Int) := by omega
    have HN := Lib.hid (dnew_no (q : Int) (by omega) w)
    clear h1 hb hq
    have j1 : (0 : Int) ≤ (n : Int) := by omega
    go_enter Try.func20, Try.ntmps20
    go_wp2_with (go_at_call 25; refine HN.out.mono ?_; rintro e w2 ⟨rfl, hb2⟩; have HB := Lib.hid hb2; clear hb2)
    exact bodyPost_ret (v := .tuple #[.pointer none, .int .i64 1]) (by simp [results, Try.results20, go_sem]) rfl ⟨rfl, HB.out⟩
  · have t1 : ((n : Int) % 256 != 0) = true := by simp; omega
    clear h1 hb
    go_enter Try.func20, Try.ntmps20
    go_wp2_with fail
    exact bodyPost_ret (v := .tuple #[.pointer none, .int .i64 1]) (by simp [results, Try.results20, go_sem]) rfl ⟨rfl, Below.refl _ _⟩
set_option maxRecDepth 100000 in
set_option maxHeartbeats 1000000 in
theorem load_ok (A : Option Addr) (n c T : Nat) (l : List Nat) (hl : n = l.length) (hT : n = T * 256) (h1 : 1 ≤ T) (h2 : T ≤ 2048) (w : World) (hS : Seg w A (u8s l)) :
    Calls Try.prog 20 #[.slice A n c] w fun e w' => ∃ p S, e = .returned (.tuple #[.pointer (some ⟨p, 0, none⟩), .int .i64 0]) ∧ Dsk w' S p T (DM.made l) ∧ (∀ i, S i → w.heap.size ≤ i) ∧ Below w.heap.size w w' := by
  have t1 : ((n : Int) % 256 != 0) = false := by simp; omega
  have t2 : (n : Int) / 256 = (T : Int) := by omega
  have HN := Lib.hid (dnew_ok T h1 h2 w)
  obtain ⟨b, off, rfl, hbl, hcell⟩ := hS (by intro e; have := congrArg List.length e; rw [u8s_length, ← hl] at this; simp at this; omega)
  have hm : n ≤ 600000 := by omega
  have HS := Lib.hid hS
  have HL := Lib.hid hl
  have HT := Lib.hid hT
  clear hS hcell hl hT
  go_enter Try.func20, Try.ntmps20
  go_wp2_with fail
  refine HN.out.mono ?_
  rintro e w2 ⟨g, gi, rfl, hD, hb⟩
  have HD := Lib.hid hD
  have HB := Lib.hid hb
  have c0 := hD.c0
  rw [List.length_replicate, ← HT.out] at c0
  have HSrc := Lib.hid (show ∀ j u, (u8s l)[j]? = some u → w2.cell? ((⟨b, off, none⟩ : Addr).add j) = some u from fun j u hj => by
    obtain ⟨b', off', e1, _, e2⟩ := (HS.out.bel HB.out) (by intro e; rw [e] at hj; simp at hj)
    injection e1 with e1
    injection e1 with e3 e4 _
    subst e3
    subst e4
    have hj' := (List.getElem?_eq_some_iff.1 hj).1
    rw [Addr.add_mid, e2 j hj', hj])
  have HI := Lib.hid (show w2.heap[gi]? = some (.cells (u8s (List.replicate (T * 256) 0)).toArray 5 (0, 0)) from hD.img)
  have hsz : (Try.prog.info? 5).map (·.size) = some 1 := by kernel_rfl
  have HLn := Lib.hid (show (u8s l).length = Nat.min n n by rw [u8s_length, HL.out]; simp)
  have HFit := Lib.hid (show 0 + (u8s l).length ≤ (u8s (List.replicate (T * 256) 0)).toArray.size by rw [u8s_length, ← HL.out, HT.out]; simp [u8s_length])
  clear hD hb
  go_wp2_with (first | (with_reducible refine wpList_copy_own rfl _ _ _ _ rfl 5 Try.underlying26 hsz gi 0 n n ⟨b, off, none⟩ n c rfl rfl _ 5 HI.out (u8s l) HLn.out HSrc.out HFit.out (u8s_one _) ?_))
  refine bodyPost_ret (v := .tuple #[.pointer (some ⟨g, 0, none⟩), .int .i64 0]) (by simp [results, Try.results20, go_sem]) rfl ?_
  have hrow : (u8s l ++ (u8s (List.replicate (T * 256) 0)).drop (u8s l).length).toArray = (u8s l).toArray := by
    rw [List.drop_eq_nil_of_le (by rw [u8s_length, u8s_length, List.length_replicate, ← HL.out, HT.out]; exact Nat.le_refl _)]
    simp
  rw [hrow]
  have hD2 := HD.out.reimg (img' := l) (by rw [List.length_replicate, ← HL.out, HT.out]) (only_setRow w2 gi (u8s l).toArray) (HD.out.img.row _)
  obtain ⟨S, hS2, hB2⟩ := Dsk.of_new hD2 T (by rw [← HL.out, HT.out]) h1 h2
  exact ⟨g, S, rfl, hS2, hB2, HB.out.trans ((only_below (only_setRow w2 gi (u8s l).toArray) HB.out.size HD.out.lo'))⟩
end
end Go.Proofs.Ytmgbmnbjionapaa
