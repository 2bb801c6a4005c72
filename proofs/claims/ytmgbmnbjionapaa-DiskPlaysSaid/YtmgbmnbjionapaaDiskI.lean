/- What Play's closure does: one call of the disk, its answers laid into two rows. Conditions: all lies in memory, apart. -/
import Derived.Test.YtmgbmnbjionapaaDiskH
import Derived.Test.YtmgbmnbjionapaaGuard
import Derived.Deep.RegionHeld3
namespace Go.Proofs.Ytmgbmnbjionapaa
open Go.RowKit

/-- The variables that Play's closure reads. -/
structure PlS (w' : World) (bd bo br bi be gr ge p : Nat) (o : OpM) (A : Option Addr) (c k n : Nat) : Prop where
  d : Bk w' bd 43 #[.pointer (some ⟨p, 0, none⟩)]
  o : Bk w' bo 36 (o.cells A c)
  r : Bk w' br 24 #[.slice (some ⟨gr, 0, none⟩) n n]
  i : Bk w' bi 3 #[.int .i64 (k : Int)]
  e : Bk w' be 25 #[.slice (some ⟨ge, 0, none⟩) n n]
section
variable {w w' : World} {bd bo br bi be gr ge p k n c : Nat} {o : OpM} {A : Option Addr}
theorem PlS.S (h : PlS w' bd bo br bi be gr ge p o A c k n) :
    w'.cell? ⟨bd, 0, none⟩ = some (.pointer (some ⟨p, 0, none⟩)) ∧ w'.cell? ⟨bo, 0, none⟩ = some (.int .i64 o.kind) ∧ w'.cell? ⟨bo, 1, none⟩ = some (.int .i64 o.block) ∧ w'.cell? ⟨bo, 2, none⟩ = some (.slice A o.data.length c) ∧ w'.cell? ⟨bo, 3, none⟩ = some (.int .u64 (o.keep : Int)) ∧ w'.cell? ⟨bo, 4, none⟩ = some (.int .i64 o.tear) ∧ w'.cell? ⟨bo, 5, none⟩ = some (.int .i64 o.sectors) ∧
    w'.cell? ⟨br, 0, none⟩ = some (.slice (some ⟨gr, 0, none⟩) n n) ∧ w'.cell? ⟨bi, 0, none⟩ = some (.int .i64 (k : Int)) ∧ w'.cell? ⟨be, 0, none⟩ = some (.slice (some ⟨ge, 0, none⟩) n n) ∧ PlS w' bd bo br bi be gr ge p o A c k n :=
  ⟨h.d.cell 0, h.o.cell 0, h.o.cell 1, h.o.cell 2, h.o.cell 3, h.o.cell 4, h.o.cell 5, h.r.cell 0, h.i.cell 0, h.e.cell 0, h⟩
theorem PlS.drew (h : PlS w bd bo br bi be gr ge p o A c k n) : PlS w.drew bd bo br bi be gr ge p o A c k n := ⟨h.d.drew, h.o.drew, h.r.drew, h.i.drew, h.e.drew⟩
theorem PlS.kept {S S' : Nat → Prop} (h : PlS w bd bo br bi be gr ge p o A c k n) (hk : Kp S S' w w') (n1 : ¬ S bd ∧ ¬ S bo ∧ ¬ S br ∧ ¬ S bi ∧ ¬ S be) : PlS w' bd bo br bi be gr ge p o A c k n :=
  ⟨hk.bk h.d n1.1, hk.bk h.o n1.2.1, hk.bk h.r n1.2.2.1, hk.bk h.i n1.2.2.2.1, hk.bk h.e n1.2.2.2.2⟩
theorem PlS.set (h : PlS w bd bo br bi be gr ge p o A c k n) (g : Nat) (n1 : bd ≠ g ∧ bo ≠ g ∧ br ≠ g ∧ bi ≠ g ∧ be ≠ g) (j : Nat) (u : Value) : PlS (w.setCell ⟨g, j, none⟩ u) bd bo br bi be gr ge p o A c k n :=
  ⟨h.d.far n1.1 u, h.o.far n1.2.1 u, h.r.far n1.2.2.1 u, h.i.far n1.2.2.2.1 u, h.e.far n1.2.2.2.2 u⟩
variable {S : Nat → Prop} {T : Nat} {D D' : DM}
set_option maxRecDepth 100000 in
set_option maxHeartbeats 2000000 in
theorem play1_none (h : Dsk w S p T D) (hP : PlS w bd bo br bi be gr ge p o A c k n) (hc : o.data.length ≤ c) (hcm : c ≤ maxLen) (hd : doR D T o = none) :
    Calls Try.prog 45 #[.pointer (some ⟨bd, 0, none⟩), .pointer (some ⟨bo, 0, none⟩), .pointer (some ⟨br, 0, none⟩), .pointer (some ⟨bi, 0, none⟩), .pointer (some ⟨be, 0, none⟩)] w fun e w' => e = .panicked [{ v := .iface 97 (.agg #[]), recovered := false }] ∧ Below w.heap.size w w' := by
  have H0 := Lib.hid hP
  have HW := Lib.hid (do_none (h.drewN 1) o A c hc hcm hd)
  have HO := Lib.hid (show o.cells A c = #[.int .i64 o.kind, .int .i64 o.block, .slice A o.data.length c, .int .u64 (o.keep : Int), .int .i64 o.tear, .int .i64 o.sectors] from rfl)
  have HB := Lib.hid (show Below w.heap.size w (w.drewN 1) from below_drewN (Below.refl _ _) 1)
  rw [HO.out] at HW
  clear h hP hc hcm hd
  go_enter Try.func45, Try.ntmps45
  go_wp2_with fail
  refine wp_region_held_drew (S := (fun w' => w'.cell? ⟨bd, 0, none⟩ = some (.pointer (some ⟨p, 0, none⟩)) ∧ w'.cell? ⟨bo, 0, none⟩ = some (.int .i64 o.kind) ∧ w'.cell? ⟨bo, 1, none⟩ = some (.int .i64 o.block) ∧ w'.cell? ⟨bo, 2, none⟩ = some (.slice A o.data.length c) ∧ w'.cell? ⟨bo, 3, none⟩ = some (.int .u64 (o.keep : Int)) ∧ w'.cell? ⟨bo, 4, none⟩ = some (.int .i64 o.tear) ∧ w'.cell? ⟨bo, 5, none⟩ = some (.int .i64 o.sectors) ∧
    w'.cell? ⟨br, 0, none⟩ = some (.slice (some ⟨gr, 0, none⟩) n n) ∧ w'.cell? ⟨bi, 0, none⟩ = some (.int .i64 (k : Int)) ∧ w'.cell? ⟨be, 0, none⟩ = some (.slice (some ⟨ge, 0, none⟩) n n) ∧ PlS w' bd bo br bi be gr ge p o A c k n)) (by kernel_rfl) (PlS.S H0.out.drew) (fun hHeld => ?_)
  refine wpAnyH_take (i := 0) (oi := _) (v := .slice (some ⟨gr, 0, none⟩) n n) rfl (by kernel_rfl) (by kernel_rfl) (by kernel_rfl) (fun _ _ _ h => h) (Or.inl ⟨by rfl, ?_⟩) (by assumption) ?_
  · intro w hSw
    go_simp
  simp only [Act.put, List.setIfInBounds_toArray]
  refine wpAnyH_take (i := 1) (oi := _) (v := .int .i64 (k : Int)) rfl (by kernel_rfl) (by kernel_rfl) (by kernel_rfl) (fun _ _ _ h => h) (Or.inl ⟨by rfl, ?_⟩) (by assumption) ?_
  · intro w hSw
    go_simp
  simp only [Act.put]
  refine wpAnyH_take (i := 2) (oi := _) (v := .slice (some ⟨ge, 0, none⟩) n n) rfl (by kernel_rfl) (by kernel_rfl) (by kernel_rfl) (fun _ _ _ h => h) (Or.inl ⟨by rfl, ?_⟩) (by assumption) ?_
  · intro w hSw
    go_simp
  simp only [Act.put]
  refine wpAnyH_take (i := 3) (oi := _) (v := .int .i64 (k : Int)) rfl (by kernel_rfl) (by kernel_rfl) (by kernel_rfl) (fun _ _ _ h => h) (Or.inl ⟨by rfl, ?_⟩) (by assumption) ?_
  · intro w hSw
    go_simp
  simp only [Act.put]
  refine wpAnyH_take (i := 4) (oi := _) (v := .pointer (some ⟨p, 0, none⟩)) rfl (by kernel_rfl) (by kernel_rfl) (by kernel_rfl) (fun _ _ _ h => h) (Or.inl ⟨by rfl, ?_⟩) (by assumption) ?_
  · intro w hSw
    go_simp
  simp only [Act.put]
  refine wpAnyH_take (i := 5) (oi := _) (v := .agg #[.int .i64 o.kind, .int .i64 o.block, .slice A o.data.length c, .int .u64 (o.keep : Int), .int .i64 o.tear, .int .i64 o.sectors]) rfl (by kernel_rfl) (by kernel_rfl) (by kernel_rfl) (fun _ _ _ h => h) (Or.inl ⟨by rfl, ?_⟩) (by assumption) ?_
  · intro w hSw
    go_simp
  simp only [Act.put]
  refine wpAnyH_ready (rs := [6]) (by kernel_rfl) (by simp) ?_
  refine AllReadyH.cons (o := _) rfl (fun K hK => ?_) AllReadyH.nil
  go_simp
  refine HW.out.mono ?_
  rintro e w' ⟨rfl, hb⟩
  exact ⟨rfl, rfl, below_step HB.out hb⟩
/-- What Play's closure comes to: w2 is the world behind the call, r and en its answers. -/
def Pl1 (w : World) (S : Nat → Prop) (p T gr ge k : Nat) (D' : DM) (r : List Nat) (en : Int) (e : Ending) (w' : World) : Prop :=
  ∃ S' A' c' w2, e = .returned (.tuple #[]) ∧ Dsk w2 S' p T D' ∧ Kp S S' w w2 ∧ Seg w2 A' (u8s r) ∧ (∀ a, A' = some a → w.heap.size ≤ a.block ∧ ¬ S' a.block ∧ a.block < w2.heap.size) ∧ r.length ≤ c' ∧
    w' = (w2.setCell ⟨gr, k, none⟩ (.slice A' r.length c')).setCell ⟨ge, k, none⟩ (.int .i64 en)
set_option maxRecDepth 100000 in
set_option maxHeartbeats 2000000 in
theorem play1_some (h : Dsk w S p T D) (hP : PlS w bd bo br bi be gr ge p o A c k n) (hc : o.data.length ≤ c) (hcm : c ≤ maxLen) (hS : Seg w A (u8s o.data)) (hA : o.data ≠ [] → ∀ a, A = some a → ¬ S a.block) (hkp : o.keep < 18446744073709551616)
    (hno : ¬ S bd ∧ ¬ S bo ∧ ¬ S br ∧ ¬ S bi ∧ ¬ S be) (hnr : ¬ S gr) (hne : ¬ S ge) (n1 : bd ≠ gr ∧ bo ≠ gr ∧ br ≠ gr ∧ bi ≠ gr ∧ be ≠ gr) (n2 : bd ≠ ge ∧ bo ≠ ge ∧ br ≠ ge ∧ bi ≠ ge ∧ be ≠ ge) (n3 : gr ≠ ge)
    (vs es : Array Value) (hr : Bk w gr 26 vs) (he : Bk w ge 40 es) (hv : vs.size = n) (hz : es.size = n) (hk : k < n)
    {r : List Nat} {en : Int} (hd : doR D T o = some (D', r, en)) :
    Calls Try.prog 45 #[.pointer (some ⟨bd, 0, none⟩), .pointer (some ⟨bo, 0, none⟩), .pointer (some ⟨br, 0, none⟩), .pointer (some ⟨bi, 0, none⟩), .pointer (some ⟨be, 0, none⟩)] w (Pl1 w S p T gr ge k D' r en) := by
  have H0 := Lib.hid hP
  have HW := Lib.hid (do_some (h.drewN 1) o A c (hS.bel (below_drewN (Below.refl _ _) 1)) hA hkp hc hcm hd)
  have HO := Lib.hid (show o.cells A c = #[.int .i64 o.kind, .int .i64 o.block, .slice A o.data.length c, .int .u64 (o.keep : Int), .int .i64 o.tear, .int .i64 o.sectors] from rfl)
  have HNO := Lib.hid hno
  have HNR := Lib.hid hnr
  have HNE := Lib.hid hne
  have HN1 := Lib.hid n1
  have HN2 := Lib.hid n2
  have n3' : ¬ gr = ge := n3
  have n4' : ¬ ge = gr := fun e => n3 e.symm
  have HR := Lib.hid hr
  have HE := Lib.hid he
  have HV := Lib.hid hv
  have HZ := Lib.hid hz
  have i1 : (k : Int) < (n : Int) := by omega
  have i2 : (0 : Int) ≤ (k : Int) := by omega
  rw [HO.out] at HW
  clear h hP hc hcm hd hS hA hkp hno hnr hne n1 n2 n3 hr he hv hz
  go_enter Try.func45, Try.ntmps45
  go_wp2_with fail
  go_region_held3 (fun w' => w'.cell? ⟨bd, 0, none⟩ = some (.pointer (some ⟨p, 0, none⟩)) ∧ w'.cell? ⟨bo, 0, none⟩ = some (.int .i64 o.kind) ∧ w'.cell? ⟨bo, 1, none⟩ = some (.int .i64 o.block) ∧ w'.cell? ⟨bo, 2, none⟩ = some (.slice A o.data.length c) ∧ w'.cell? ⟨bo, 3, none⟩ = some (.int .u64 (o.keep : Int)) ∧ w'.cell? ⟨bo, 4, none⟩ = some (.int .i64 o.tear) ∧ w'.cell? ⟨bo, 5, none⟩ = some (.int .i64 o.sectors) ∧
    w'.cell? ⟨br, 0, none⟩ = some (.slice (some ⟨gr, 0, none⟩) n n) ∧ w'.cell? ⟨bi, 0, none⟩ = some (.int .i64 (k : Int)) ∧ w'.cell? ⟨be, 0, none⟩ = some (.slice (some ⟨ge, 0, none⟩) n n) ∧ PlS w' bd bo br bi be gr ge p o A c k n)
    (first
      | (with_reducible assumption)
      | (with_reducible exact PlS.S (H0.out.drew))
      | (with_reducible exact PlS.S P2.out)
      | (with_reducible exact PlS.S (P2.out.set gr HN1.out k _))
      | (with_reducible exact PlS.S (P2.out.set ge HN2.out k _))
      | (with_reducible exact PlS.S ((P2.out.set gr HN1.out k _).set ge HN2.out k _))
      | (with_reducible exact PlS.S ((P2.out.set ge HN2.out k _).set gr HN1.out k _)))
    (first
      | (go_at_call 46; refine HW.out.mono ?_; rintro e w2 ⟨S', A', c', rfl, q1, q2, q3, q4, q5⟩; have Q1 := Lib.hid q1; have Q2 := Lib.hid q2; have Q3 := Lib.hid q3; have Q4 := Lib.hid q4; have P2 := Lib.hid (H0.out.drew.kept q2 HNO.out); have R2 := q2.bk HR.out.drew HNR.out; have E2 := q2.bk HE.out.drew HNE.out; have cr : w2.cell? ⟨gr, k, none⟩ = some (vs[k]'(by rw [HV.out]; exact hk)) := (R2.cell k).trans (by simp [HV.out, hk]); have fr := R2.frozen k; have ce : w2.cell? ⟨ge, k, none⟩ = some (es[k]'(by rw [HZ.out]; exact hk)) := (E2.cell k).trans (by simp [HZ.out, hk]); have fe := E2.frozen k; clear q1 q2 q3 q4 R2 E2))
  refine bodyPost_end (v := .tuple #[]) ?_ rfl ?_
  · simp [results, Try.results45, go_sem]
  · exact ⟨S', A', c', w2, rfl, Q1.out, (((Kp.refl S w).drew).trans Q2.out), Q3.out, Q4.out, q5, rfl⟩
end
end Go.Proofs.Ytmgbmnbjionapaa
